package word_test

import (
	"testing"

	"lazarus/api"
)

func TestWordsOfSeveralParts(t *testing.T) {
	with(one(`${z:-q'r  s'$b"$b"$((n))}`)).runs(t, parted("q"), quote("r  s"), parted("a b"), quote("a b"), parted("5"))
	with(one(`"${z:-q'r  s'$b"$b"$((n))}"`)).runs(t, quote("q"), quote("r  s"), quote("a b"), quote("a b"), quote("5"))
	with(one(`${a:+q'r  s'$b"$b"$((n))}`)).runs(t, parted("q"), quote("r  s"), parted("a b"), quote("a b"), parted("5"))
	with(one(`"${a:+q'r  s'$b"$b"$((n))}"`)).runs(t, quote("q"), quote("r  s"), quote("a b"), quote("a b"), quote("5"))
	with(one(`x${z:-q r}y`)).runs(t, plain("x"), parted("q r"), plain("y"))
	with(one(`x"${z:-q r}"y`)).runs(t, plain("x"), quote("q r"), plain("y"))
	with(one(`x'y'${a:+q r}z`)).runs(t, plain("x"), quote("y"), parted("q r"), plain("z"))
	with(one(`x"${a:+q r}"y`)).runs(t, plain("x"), quote("q r"), plain("y"))
}

func TestWordsWithAllArguments(t *testing.T) {
	with(one(`${z:-$@}`)).runs(t, parted("one"), stopOut, parted(""), stopOut, parted("t w"))
	with(one(`${z:-"$@"}`)).runs(t, quote("one"), stopOut, quote(""), stopOut, quote("t w"))
	with(one(`"${z:-$@}"`)).runs(t, quote("one"), stopIn, quote(""), stopIn, quote("t w"))
	with(one(`"${z:-"$@"}"`)).runs(t, quote("one"), stopIn, quote(""), stopIn, quote("t w"))
	with(one(`${a:+$@}`)).runs(t, parted("one"), stopOut, parted(""), stopOut, parted("t w"))
	with(one(`"${a:+$@}"`)).runs(t, quote("one"), stopIn, quote(""), stopIn, quote("t w"))
	with(one(`$@${z:-$@}"$@"`)).args("a", "b").runs(t, parted("a"), stop, parted("b"), parted("a"), stopOut, parted("b"), quote("a"), stop, quote("b"))
	// None of them is no run at all, so that where it is Quoted there is one of nothing.
	with(one(`${z:-$@}`)).args().runs(t)
	with(one(`${z:-"$@"}`)).args().runs(t)
	with(one(`"${z:-$@}"`)).args().runs(t, quote(""))
	with(one(`"${z:-"$@"}"`)).args().runs(t, quote(""))
	with(one(`${a:+"$@"}`)).args().runs(t)
	with(one(`"${a:+$@}"`)).args().runs(t, quote(""))
	with(one(`"${z:-$@}"`)).args("").runs(t, quote(""))
	with(one(`"${z:-$@'x'}"`)).args().runs(t, quote("x"))
	with(one(`${z:-"$@"}x`)).fields(t, "one", "", "t wx")
	with(one(`"${z:-$@}"`)).fields(t, "one", "", "t w")
	with(one(`${z:-$@}`)).fields(t, "one", "t", "w")
	with(one(`x${a:+$@}y`)).fields(t, "xone", "t", "wy")
}

func TestWordsWithNothing(t *testing.T) {
	with(one(`${z:-}`)).runs(t)
	with(one(`"${z:-}"`)).runs(t, quote(""))
	with(one(`${a:+}`)).runs(t)
	with(one(`"${a:+}"`)).runs(t, quote(""))
	with(one(`${z:+q}`)).runs(t)
	with(one(`${e:+q}`)).runs(t)
	with(one(`"${z:+q}"`)).runs(t, quote(""))
	with(one(`"${e:+q}"`)).runs(t, quote(""))
	with(one(`${z:-''}`)).runs(t, quote(""))
	with(one(`"${z:-''}"`)).runs(t, quote(""))
	with(one(`${z:-$y}`)).runs(t, parted(""))
	with(one(`"${z:-$y}"`)).runs(t, quote(""))
	with(one(`x${z:-}y`)).runs(t, plain("x"), plain("y"))
	with(one(`x"${z:-}"y`)).runs(t, plain("x"), quote(""), plain("y"))
	with(one(`x"${z:+q}"y`)).runs(t, plain("x"), quote(""), plain("y"))
}

func TestWordsWithinWords(t *testing.T) {
	with(one(`${z:-${y:-q r}}`)).runs(t, parted("q r"))
	with(one(`${z:-"${y:-q r}"}`)).runs(t, quote("q r"))
	with(one(`"${z:-${y:-q r}}"`)).runs(t, quote("q r"))
	with(one(`${z:-q${y:-'r'$b}"${y:-s}"}t`)).runs(t, parted("q"), quote("r"), parted("a b"), quote("s"), plain("t"))
	with(one(`"${z:-q${y:-'r'$b}"${y:-s}"}"t`)).runs(t, quote("q"), quote("r"), quote("a b"), quote("s"), plain("t"))
	with(one(`${a:+${b:+q r}}`)).runs(t, parted("q r"))
	with(one(`${a:+${z:+q r}}`)).runs(t)
	with(one(`"${a:+${z:+q r}}"`)).runs(t, quote(""))
	with(one(`${a:+"${z:+q r}"}`)).runs(t, quote(""))
	with(one(`"${a:+"${z:+q r}"}"`)).runs(t, quote(""))
	with(one(`${z:-${a:+$@}}`)).args("1", "2").runs(t, parted("1"), stopOut, parted("2"))
	with(one(`"${z:-${a:+$@}}"`)).args("1", "2").runs(t, quote("1"), stopIn, quote("2"))
	with(one(`${z:-"${a:+$@}"}`)).args("1", "2").runs(t, quote("1"), stopIn, quote("2"))
	with(of(deep(api.MaxDepth, ":-", lit("q r"), quoted("s"), in(param("@", "")))...)).args("1", "2").runs(t, parted("q r"), quote("s"), quote("1"), stopOut, quote("2"))
	with(of(in(deep(api.MaxDepth, ":-", lit("q r"), param("@", ""))[0]))).args("1", "2").runs(t, quote("q r"), quote("1"), stopIn, quote("2"))
}

// A Word that is not asked for does nothing.
func TestWordsThatAreNotLookedAt(t *testing.T) {
	for _, s := range []string{`${a:-${z:=1}}`, `${z:+${y:=1}}`, `${a:=${z:=1}}`, `${a:-$((1/0))}`, `${z:+$((1+))}`, `${a:=$((1/0))}`, `${e:+${z:=1}}`, `"${a:-${z:=1}}"`, `${1:-${z:=1}}`, `${@:-${z:=1}}`, `${4:+${z:=1}}`} {
		j := with(one(s))
		j.check(t)
		j.after(t, "a", "x")
	}
}

func TestWhatIsSet(t *testing.T) {
	with(one(`${z:=q r}`)).runs(t, parted("q r"))
	with(one(`"${z:=q r}"`)).runs(t, quote("q r"))
	with(one(`${e:=q}`)).runs(t, parted("q"))
	with(one(`x${z:=q}y`)).runs(t, plain("x"), parted("q"), plain("y"))
	// The value is one run, though the Word has quotes, or Breaks.
	with(one(`${z:='q  r'}`)).runs(t, parted("q  r"))
	with(one(`"${z:='q  r'}"`)).runs(t, quote("q  r"))
	with(one(`${z:=a'b c'$b"$b"$((n))}`)).runs(t, parted("ab ca ba b5"))
	with(one(`${z:=$@}`)).runs(t, parted("one  t w"))
	with(one(`${z:="$@"}`)).runs(t, parted("one  t w"))
	with(one(`"${z:=$@}"`)).runs(t, quote("one  t w"))
	with(one(`${z:=$@}`)).args().runs(t, parted(""))
	with(one(`"${z:=$@}"`)).args().runs(t, quote(""))
	with(one(`${z:=}`)).runs(t, parted(""))
	with(one(`"${z:=}"`)).runs(t, quote(""))
	with(one(`${z:=''}`)).runs(t, parted(""))
	with(one(`${z:=$b*}`)).runs(t, parted("a b*"))
	// As a text it has letters alone.
	with(one(`${z:=$f}$f$z`)).runs(t, parted("\ufffd\u00e9\ufffd"), parted("\xff\u00e9\xc3"), parted("\ufffd\u00e9\ufffd"))
}

func TestWhatIsSetIsTheValueFromThereOn(t *testing.T) {
	with(one(`$z${z:=q}$z"$z"${#z}${z:-r}${z:+s}${z:=t}`)).runs(t, parted(""), parted("q"), parted("q"), quote("q"), parted("1"), parted("q"), parted("s"), parted("q"))
	with(one(`${e:=q r}$e`)).runs(t, parted("q r"), parted("q r"))
	// Nothing is a value too, but one that has no byte.
	with(one(`${z:=}${z:=q}$z`)).runs(t, parted(""), parted("q"), parted("q"))
	with(one(`${z:=q}`)).after(t, "z", "q")
	with(one(`${z:=}`)).after(t, "z", "")
	with(one(`"${z:='q  r'}"`)).after(t, "z", "q  r")
	with(one(`${z:=$@}`)).after(t, "z", "one  t w")
	with(one(`${e:=$f}`)).after(t, "e", "\ufffd\u00e9\ufffd")
	with(one(`${a:=q}`)).after(t, "a", "x")
	with(one(`${b:=q}${z:=$b}`)).after(t, "z", "a b")
	with(words(`${z:=q} $z ${z:=r}`)...).fields(t, "q", "q", "q")
	with(words(`$z ${z:=q r}x "$z" $z`)...).fields(t, "q", "rx", "q r", "q", "r")
	with(words(`${z:=q} ${y:=$z$z} "$y" $((n+n))`)...).fields(t, "q", "qq", "qq", "10")
	with(words(`${z:=4} $((z+1))`)...).fields(t, "4", "5")
	with(words(`${e:=*}`)...).after(t, "e", "*")
}

func TestWhatIsSetWithin(t *testing.T) {
	with(one(`${z:=${y:=q}r}$z$y`)).runs(t, parted("qr"), parted("qr"), parted("q"))
	// The inner one is set first, the outer one anew.
	with(one(`${z:=${z:=q}r}$z`)).runs(t, parted("qr"), parted("qr"))
	with(one(`${z:=${z:=q}$z}$z`)).runs(t, parted("qq"), parted("qq"))
	with(one(`${z:-${z:=q r}}$z`)).runs(t, parted("q r"), parted("q r"))
	with(one(`${z:-"${z:=q r}"s}$z`)).runs(t, quote("q r"), parted("s"), parted("q r"))
	with(one(`"${z:-${z:=q r}}$z"`)).runs(t, quote("q r"), quote("q r"))
	with(one(`${a:+${z:=q}}$z`)).runs(t, parted("q"), parted("q"))
	with(one(`${y:=x${z:-${z:=q}}$z}$y`)).runs(t, parted("xqq"), parted("xqq"))
	with(one(`x'y'${z:=${y:-'a'$b}${y:=c}}`)).runs(t, plain("x"), quote("y"), parted("aa bc"))
	with(one(`${z:=${y:=q}r}`)).by(known(api.Binding{Name: "y", Value: "s"})).runs(t, parted("sr"))
	with(of(deep(api.MaxDepth, ":=", lit("q r"), param("@", ""))...)).args("1", "2").runs(t, parted("q r1 2"))
}
