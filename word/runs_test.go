package word_test

import (
	"math"
	"strconv"
	"strings"
	"testing"

	"lazarus/api"
)

func TestWordsWithoutAPart(t *testing.T) {
	for _, w := range []api.Word{{}, {Parts: []api.Part{}}, {Parts: one("ab'c'").Parts[:0]}} {
		with(w).runs(t)
		with(w).by(api.Env{}).runs(t)
	}
}

func TestLits(t *testing.T) {
	with(one(`a`)).runs(t, plain("a"))
	with(one(`'a'`)).runs(t, quote("a"))
	with(one(`''`)).runs(t, quote(""))
	with(one(`' a  b '`)).runs(t, quote(" a  b "))
	with(one(`a' 'b`)).runs(t, plain("a"), quote(" "), plain("b"))
	with(one(`a'b'c"d"\e`)).runs(t, plain("a"), quote("b"), plain("c"), quote("de"))
	with(one(`*'*'`)).runs(t, plain("*"), quote("*"))
	with(one("é'\u20ac'")).runs(t, plain("\u00e9"), quote("\u20ac"))
	with(one(`'$a'\$a`)).runs(t, quote("$a$"), plain("a"))
	// Each is a run of its own, also such as the lexer would have as one, or has not at all.
	with(of(lit("a"), lit("b"), quoted("c"), quoted("d"))).runs(t, plain("a"), plain("b"), quote("c"), quote("d"))
	with(of(lit(""))).runs(t, plain(""))
	with(of(lit(" a b\t"))).runs(t, plain(" a b\t"))
	with(of(quoted(" a b\t"))).runs(t, quote(" a b\t"))
	with(of(lit("\xff"), quoted("\x00"))).runs(t, plain("\xff"), quote("\x00"))
}

func TestManyParts(t *testing.T) {
	with(one(`x$b'y'"$b"$((1+1))$1`)).runs(t, plain("x"), parted("a b"), quote("y"), quote("a b"), parted("2"), parted("one"))
	with(one(`$b"$b"`)).runs(t, parted("a b"), quote("a b"))
	l := one(strings.Repeat("a'b'", 400))
	var want []string
	for _, p := range l.Parts {
		want = append(want, p.Text)
	}
	if len(want) != 800 {
		t.Fatal(len(want))
	}
	with(l).text(t, strings.Join(want, ""))
}

func TestNames(t *testing.T) {
	with(one(`$a`)).runs(t, parted("x"))
	with(one(`"$a"`)).runs(t, quote("x"))
	with(one(`$b`)).runs(t, parted("a b"))
	with(one(`$s`)).runs(t, parted(" p  q "))
	with(one(`"$s"`)).runs(t, quote(" p  q "))
	with(one(`$f`)).runs(t, parted("\xff\u00e9\xc3"))
	for _, name := range []string{"e", "z", "y", "_", "ab", "A"} {
		with(one(`$`+name)).runs(t, parted(""))
		with(one(`"$`+name+`"`)).runs(t, quote(""))
	}
	with(one(`${a}b`)).runs(t, parted("x"), plain("b"))
	with(one(`$ab`)).runs(t, parted(""))
	// What a value has is no word anew.
	with(one(`$a`)).set("a", "$b'c'").runs(t, parted("$b'c'"))
	with(one(`$a$b`)).by(api.Env{}).runs(t, parted(""), parted(""))
}

func TestArguments(t *testing.T) {
	for n := range 12 {
		var args []string
		for i := range n {
			args = append(args, "arg "+strconv.Itoa(i+1))
		}
		for i := 1; i <= 9; i++ {
			want := ""
			if i <= n {
				want = args[i-1]
			}
			s := strconv.Itoa(i)
			with(one(`$`+s)).args(args...).runs(t, parted(want))
			with(one(`"$`+s+`"`)).args(args...).runs(t, quote(want))
			with(one(`${`+s+`}0`)).args(args...).runs(t, parted(want), plain("0"))
		}
	}
	with(one(`$2`)).runs(t, parted(""))
	with(one(`$3`)).runs(t, parted("t w"))
}

func TestHowManyArguments(t *testing.T) {
	for _, n := range []int{0, 1, 3, 9, 10, 100, 12345} {
		args := strings.Split(strings.Repeat("x,", n), ",")[:n]
		want := strconv.Itoa(n)
		with(one(`$#`)).args(args...).runs(t, parted(want))
		with(one(`"$#"`)).args(args...).runs(t, quote(want))
		with(one(`"${#}"`)).args(args...).runs(t, quote(want))
	}
}

func TestStatus(t *testing.T) {
	for _, n := range []int{0, 1, 2, 9, 10, 99, 100, 125, 127, 128, 254, 255, 256, -1, math.MaxInt, math.MinInt} {
		j := with(one(`$?"$?"`))
		j.status = n
		want := strconv.FormatInt(int64(n), 10)
		j.runs(t, parted(want), quote(want))
	}
}

func TestAllArguments(t *testing.T) {
	for _, s := range []string{`$@`, `"$@"`, `${@}`, `"${@}"`} {
		r := parted
		if s[0] == '"' {
			r = quote
		}
		w := with(one(s))
		w.args().runs(t)
		w.args("").runs(t, r(""))
		w.args("a").runs(t, r("a"))
		w.args("a b", "c").runs(t, r("a b"), stop, r("c"))
		w.args("a", "", "b").runs(t, r("a"), stop, r(""), stop, r("b"))
		w.args("", "").runs(t, r(""), stop, r(""))
		w.args("1", "2", "3", "4", "5", "6", "7", "8", "9", "10", "11").runs(t, r("1"), stop, r("2"), stop, r("3"), stop, r("4"), stop, r("5"), stop, r("6"), stop, r("7"), stop, r("8"), stop, r("9"), stop, r("10"), stop, r("11"))
	}
	with(one(`x$@y`)).args().runs(t, plain("x"), plain("y"))
	with(one(`x"$@"y`)).args().runs(t, plain("x"), plain("y"))
	with(one(`x"$@"y`)).args("a").runs(t, plain("x"), quote("a"), plain("y"))
	with(one(`x"$@"y`)).args("a", "b").runs(t, plain("x"), quote("a"), stop, quote("b"), plain("y"))
	with(one(`"x$@y"`)).args("a", "b").runs(t, quote("x"), quote("a"), stop, quote("b"), quote("y"))
	with(one(`$@"$@"`)).args("a", "b").runs(t, parted("a"), stop, parted("b"), quote("a"), stop, quote("b"))
	with(one(`""$@`)).args().runs(t, quote(""))
}

func TestHowManyLetters(t *testing.T) {
	for value, n := range map[string]int{"": 0, "a": 1, " ": 1, "abc": 3, "a b": 3, "\u00e9": 1, "\u20ac": 1, "\U0001f600": 1, "\u00e9\u20ac\U0001f600a": 4, "\xff": 1, "\xff\xfe": 2, "\xe2\x82": 2, "a\xffb": 3, "\u00e9\xc3\u00e9": 3, "\ufffd": 1, "\x00\n": 2, "e\u0301": 2, strings.Repeat("\u20ac", 4000): 4000, strings.Repeat("x", 4001): 4001} {
		j := with(one(`${#v}"${#v}"`)).set("v", value)
		j.runs(t, parted(strconv.Itoa(n)), quote(strconv.Itoa(n)))
	}
	with(one(`${#z}"${#z}"`)).runs(t, parted("0"), quote("0"))
	with(one(`${#e}x`)).runs(t, parted("0"), plain("x"))
	with(one(`${z:=abc}${#z}`)).runs(t, parted("abc"), parted("3"))
}

func TestArith(t *testing.T) {
	with(one(`$((1+2*3))`)).runs(t, parted("7"))
	with(one(`"$((1+2*3))"`)).runs(t, quote("7"))
	with(one(`$((0))x`)).runs(t, parted("0"), plain("x"))
	with(one(`$((0-7))"$((-7))"`)).runs(t, parted("-7"), quote("-7"))
	with(one(`$((n*n+z))`)).runs(t, parted("25"))
	with(one(`$((e))`)).runs(t, parted("0"))
	with(one(`$((9223372036854775807))`)).runs(t, parted("9223372036854775807"))
	with(one(`$((0-9223372036854775807-1))`)).runs(t, parted("-9223372036854775808"))
	with(one(`$((n<6))$((n==6))`)).runs(t, parted("1"), parted("0"))
	// What := sets counts behind it, and not ahead of it.
	with(one(`$((z)):${z:=4}:$((z+1))`)).runs(t, parted("0"), plain(":"), parted("4"), plain(":"), parted("5"))
	with(one(`${z:=$((n+1))}${y:=$((z+1))}$((y+z))`)).runs(t, parted("6"), parted("7"), parted("13"))
	with(one(`${z:-$((n+1))}"${z:-$((n+2))}"`)).runs(t, parted("6"), quote("7"))
}

// params are parameters of each kind, and whether the value of one has no byte.
func params() []struct {
	whose string
	none  bool
} {
	return []struct {
		whose string
		none  bool
	}{{"a", false}, {"b", false}, {"e", true}, {"z", true}, {"s", false}, {"1", false}, {"2", true}, {"3", false}, {"4", true}, {"9", true}, {"#", false}, {"?", false}, {"@", false}}
}

func TestEachOpOfEachParameter(t *testing.T) {
	for _, p := range params() {
		for _, isIn := range []bool{false, true} {
			part := func(op string) api.Part {
				x := param(p.whose, op)
				if op != "" {
					x.Word = one(`q' r'`).Parts
				}
				x.Quoted = isIn
				return x
			}
			whole := with(of(part("")))
			own, _, _ := modelRuns(whole)
			whole.runs(t, own...)
			word, nothing := row(parted("q"), quote(" r")), row()
			if isIn {
				word, nothing = row(quote("q"), quote(" r")), row(quote(""))
			}
			less, more := own, word
			if p.none {
				less, more = word, nothing
			}
			with(of(part(":-"))).runs(t, less...)
			with(of(part(":+"))).runs(t, more...)
			if strings.Contains("abezs", p.whose) && !p.none {
				with(of(part(":="))).runs(t, own...)
			}
			if p.none && strings.Contains("ez", p.whose) {
				r := parted("q r")
				r.Quote, r.Split = isIn, !isIn
				with(of(part(":="))).runs(t, r)
			}
		}
	}
}

// Whether @ has a byte is asked of all Args, a blank between: so two without a byte have one.
func TestWhenAllArgumentsHaveAByte(t *testing.T) {
	with(one(`${@:-q}`)).args().runs(t, parted("q"))
	with(one(`${@:-q}`)).args("").runs(t, parted("q"))
	with(one(`${@:-q}`)).args("", "").runs(t, parted(""), stop, parted(""))
	with(one(`${@:-q}`)).args("a").runs(t, parted("a"))
	with(one(`${@:-q}`)).args("", "a").runs(t, parted(""), stop, parted("a"))
	with(one(`"${@:-q}"`)).args().runs(t, quote("q"))
	with(one(`"${@:-q}"`)).args("").runs(t, quote("q"))
	with(one(`"${@:-q}"`)).args("", "").runs(t, quote(""), stop, quote(""))
	with(one(`${@:+q}`)).args().runs(t)
	with(one(`${@:+q}`)).args("").runs(t)
	with(one(`${@:+q}`)).args("", "").runs(t, parted("q"))
	with(one(`${@:+q}`)).args("a").runs(t, parted("q"))
	with(one(`"${@:+q}"`)).args().runs(t, quote(""))
	with(one(`"${@:+q}"`)).args("").runs(t, quote(""))
	with(one(`"${@:+q}"`)).args("", "").runs(t, quote("q"))
}
