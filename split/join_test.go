package split_test

import (
	"testing"

	"lazarus/split"
)

func TestJoinOfNoRun(t *testing.T) {
	for _, l := range [][]split.Run{nil, {}, make([]split.Run, 0, 3), row(plain(""), quote(""), parted(""))} {
		joins(t, l, ``)
	}
}

func TestJoinOfBreaks(t *testing.T) {
	joins(t, row(stop), ` `)
	joins(t, row(stop, stop), `  `)
	joins(t, row(stop, stop, stop), `   `)
	joins(t, row(stop, plain("a")), ` a`)
	joins(t, row(plain("a"), stop), `a `)
	joins(t, row(stop, plain("a"), stop), ` a `)
	joins(t, row(plain("a"), stop, plain("b")), `a b`)
	joins(t, row(plain("a"), stop, stop, plain("b")), `a  b`)
	joins(t, row(stop, stop, quote("a"), stop, stop, stop, parted("b"), stop, stop), `  \a   b  `)
	joins(t, row(stop, plain(""), stop), `  `)
	joins(t, row(stop, quote(""), stop), `  `)
	joins(t, row(quote("a"), stop, quote("b")), `\a \b`)
}

func TestJoinOfABreakThatIsMore(t *testing.T) {
	for i := range 4 {
		for _, s := range []string{"", "x", " ", "x y", "\t"} {
			x := split.Run{Text: s, Quote: i&1 > 0, Split: i&2 > 0, Break: true}
			joins(t, row(x), ` `)
			joins(t, row(x, x), `  `)
			joins(t, row(quote("a"), x, plain("b")), `\a b`)
			joins(t, row(quote("a"), x, quote("b"), x), `\a \b `)
		}
	}
}

func TestJoinOfLetters(t *testing.T) {
	joins(t, row(plain("a")), `a`)
	joins(t, row(quote("a")), `\a`)
	joins(t, row(parted("a")), `a`)
	joins(t, row(plain("ab"), quote("cd"), parted("ef")), `ab\c\def`)
	joins(t, row(quote("ab"), plain("cd"), quote("ef")), `\a\bcd\e\f`)
	joins(t, row(quote(""), plain("a"), quote("")), `a`)
	joins(t, row(split.Run{Text: "a b", Quote: true, Split: true}), `\a\ \b`)
	joins(t, row(plain("*"), quote("*")), `*\*`)
	joins(t, row(quote("\u00e9\xff\x00"), plain("\u00e9\xff\x00")), "\\\u00e9\\\ufffd\\\x00\u00e9\ufffd\x00")
}

func TestBlanksStayInJoin(t *testing.T) {
	for _, s := range []string{" ", "\t", "\n", "  ", " \t\n", " a", "a ", "a b", "\ta\n\nb "} {
		joins(t, row(parted(s)), s)
		joins(t, row(plain(s)), s)
		joins(t, row(parted(s), stop, parted(s)), s+` `+s)
		joins(t, row(quote("x"), parted(s), quote("y")), `\x`+s+`\y`)
	}
	joins(t, row(quote(" \t\n")), "\\ \\\t\\\n")
	joins(t, row(quote(" "), parted(" "), plain(" "), stop, quote(" ")), `\    \ `)
}
