package word_test

import (
	"slices"
	"strconv"
	"strings"
	"testing"

	"lazarus/api"
	"lazarus/word"
)

// most is as long as may be, over is one more.
var (
	most = strings.Repeat("m", api.MaxStr)
	over = strings.Repeat("o", api.MaxStr+1)
)

// short is a text of so many bytes.
func short(n int) string { return strings.Repeat("s", n) }

func TestReckonings(t *testing.T) {
	for _, s := range []string{`$((1+))`, `"$((1+))"`, `$(())`, `$((1 2))`, `$((1<2<3))`, `$((=))`, `x$((a+))y`, `$((1x))`} {
		with(one(s)).fails(t, api.ErrForm)
	}
	for _, s := range []string{`$((1/0))`, `"$((1%0))"`, `$((a))`, `$((b+1))`, `$((g))`, `$((9223372036854775808))`, `$((9223372036854775807+1))`, `x"y$((1/z))"`} {
		with(one(s)).fails(t, api.ErrMath)
	}
	// A value that := sets counts.
	with(one(`$((z))${z:=q}$((z))`)).fails(t, api.ErrMath)
	with(one(`${z:=0}$((1/z))`)).fails(t, api.ErrMath)
	with(one(`${z:=1}$((1/z))`)).fields(t, "11")
}

func TestErrorsWithin(t *testing.T) {
	for _, s := range []string{`${z:-$((1/0))}`, `"${z:-$((1/0))}"`, `${z:=$((1/0))}`, `${a:+$((1/0))}`, `"${a:+x$((1/0))}"`, `${z:-${y:-${a:+$((1/0))}}}`, `${z:=x${y:=$((1/0))}}`, `${@:+$((1/0))}`, `${4:-$((1/0))}`} {
		with(one(s)).fails(t, api.ErrMath)
	}
}

func TestNothingBehindAnErrorIsLookedAt(t *testing.T) {
	with(one(`$((1+))$((1/0))`)).fails(t, api.ErrForm)
	with(one(`$((1/0))$((1+))`)).fails(t, api.ErrMath)
	with(one(`${z:-$((1/0))}$((1+))`)).fails(t, api.ErrMath)
	with(one(`$((1/0))${z:-$((1+))}`)).fails(t, api.ErrMath)
	with(one(`${z:=$((1/0))$((1+))}`)).fails(t, api.ErrMath)
	with(of(lit(over), arith("1/0"))).fails(t, api.ErrLimit)
	with(of(arith("1/0"), lit(over))).fails(t, api.ErrMath)
	with(of(param("v", ""), arith("1+"))).set("v", over).fails(t, api.ErrLimit)
	with(of(arith("1+"), param("v", ""))).set("v", over).fails(t, api.ErrForm)
	// A Text, or a field, comes behind all runs, a value that is set behind all of its Word's.
	v := with(one(`$v$v$((1/0))`)).set("v", short(api.MaxStr/2+1))
	v.fails(t, api.ErrMath)
	v.words = words(`${z:=$v$v$((1/0))}$((1+))`)
	v.fails(t, api.ErrMath)
	v.words = words(`${z:=$v$v}$((1/0))`)
	v.fails(t, api.ErrLimit)
	v.words = words(`${z:-$v$v}$((1/0))`)
	v.fails(t, api.ErrMath)
}

func TestErrorsWordByWord(t *testing.T) {
	v := with().set("v", short(api.MaxStr/2+1))
	hundred := strings.Repeat("x ", api.MaxArgs)
	for s, want := range map[string]api.Errno{
		`$v$v $((1/0))`: api.ErrLimit, `$((1/0)) $v$v`: api.ErrMath, `$((1+)) $v$v`: api.ErrForm, `x $((1/0)) $((1+))`: api.ErrMath, `x $((1+)) $((1/0))`: api.ErrForm,
		hundred + `x $((1/0))`: api.ErrLimit, hundred + `$((1/0)) x`: api.ErrMath, hundred + `x$((1/0))`: api.ErrMath, hundred + `$z $((1+))`: api.ErrForm, hundred + `$z ${z:-} $e`: api.OK,
		`* $((1/0))`: api.ErrMath, `${z:=1} $((1/0))`: api.ErrMath, `${z:=1} ${z:=$((1/0))}`: api.OK,
	} {
		v.words = words(s)
		v.failsAsFields(t, want)
	}
	v.words, v.files = words(`* $((1/0))`), slices.Repeat([]string{"f"}, api.MaxArgs+1)
	v.failsAsFields(t, api.ErrLimit)
	v.words = words(`$((1/0)) *`)
	v.failsAsFields(t, api.ErrMath)
	v.words, v.files = words(`* $((1/0))`), []string{over}
	v.failsAsFields(t, api.ErrLimit)
	v.words = words(`*$((1/0))`)
	v.failsAsFields(t, api.ErrMath)
}

// What was set ahead of an error is not set.
func TestAnErrorLeavesTheEnv(t *testing.T) {
	for _, s := range []string{`${z:=1}$((1/0))`, `${e:=1}$((1+))`, `${z:=1} ${y:=2} $((1/0))`, `${z:=${y:=1}$((1/0))}`, `${z:=1}$v$v$v`, `${z:=1} $v$v$v`, `${z:=$v$v$v}`, `${z:-${y:=1}$((1/0))}`, `${z:=1}` + strings.Repeat(" x", api.MaxArgs)} {
		j := with(words(s)...).set("v", short(api.MaxStr/2))
		l, now, err := word.Fields(j.words, j.env, j.status, j.files)
		if err == api.OK || len(l) != 0 || !same(now, j.env) {
			t.Errorf("%s: %s, %s, %v", told(j), told(l), told(now), err)
		}
		j.check(t)
	}
	j := with(one(`${z:=1}$v$v$v`)).set("v", short(api.MaxStr/2))
	if s, now, err := word.Text(j.words[0], j.env, j.status); s != "" || !same(now, j.env) || err != api.ErrLimit {
		t.Error(s, told(now), err)
	}
	// Runs and Pattern of that word are no error, so it is set there.
	for range 2 {
		if _, now, err := word.Pattern(j.words[0], j.env, j.status); err != api.OK || len(now.Vars) != len(j.env.Vars)+1 {
			t.Error(told(now), err)
		}
	}
}

func TestHowLongARunMayBe(t *testing.T) {
	for _, p := range []func(s string) job{
		func(s string) job { return with(of(lit(s))) },
		func(s string) job { return with(of(quoted(s))) },
		func(s string) job { return with(one(`$v`)).set("v", s) },
		func(s string) job { return with(one(`"$v"`)).set("v", s) },
		func(s string) job { return with(one(`x${v:-y}`)).set("v", s) },
		func(s string) job { return with(one(`${v:=y}`)).set("v", s) },
		func(s string) job { return with(one(`$1`)).args(s) },
		func(s string) job { return with(one(`"$9"`)).args("", "", "", "", "", "", "", "", s) },
		func(s string) job { return with(one(`$@`)).args(s) },
		func(s string) job { return with(one(`"$@"`)).args("a", s) },
		func(s string) job { return with(one(`"${@:-x}"`)).args("", s, "b") },
		func(s string) job { return with(of(param("z", ":-", lit(s)))) },
		func(s string) job { return with(of(in(param("z", ":-", quoted(s))))) },
		func(s string) job { return with(of(param("a", ":+", lit(s)))) },
		func(s string) job { return with(one(`${z:-${y:-$v}}`)).set("v", s) },
		func(s string) job { return with(of(param("z", ":=", lit(s)))) },
		func(s string) job { return with(one(`"${z:=$v}"`)).set("v", s) },
	} {
		j := p(most)
		if _, _, err := word.Runs(j.words[0], j.env, j.status); err != api.OK {
			t.Errorf("%s: %v", told(j), err)
		}
		j.check(t)
		p(over).fails(t, api.ErrLimit)
	}
	// It is the bytes that are counted, not the letters.
	with(of(lit(strings.Repeat("\u00e9", api.MaxStr/2)))).runs(t, plain(strings.Repeat("\u00e9", api.MaxStr/2)))
	with(of(lit(strings.Repeat("\u00e9", api.MaxStr/2)+"x"))).fails(t, api.ErrLimit)
	// What is not put in the word's place may be longer.
	with(one(`${#v}`)).set("v", over).runs(t, parted(strconv.Itoa(api.MaxStr+1)))
	with(one(`${v:+x}`)).set("v", over).runs(t, parted("x"))
	with(one(`${@:+x}`)).args(over, over).runs(t, parted("x"))
	with(one(`$1$#`)).args("x", over).runs(t, parted("x"), parted("2"))
	with(of(param("a", ":-", lit(over)))).runs(t, parted("x"))
	with(of(param("z", ":+", lit(over)))).runs(t)
	with(one(`$a`)).set("v", over).runs(t, parted("x"))
	// Each run is asked by itself.
	with(one(`$v$v"$v"`)).set("v", most).runs(t, parted(most), parted(most), quote(most))
}

func TestHowLongAValueThatIsSetMayBe(t *testing.T) {
	j := with(one(`${z:=${v}x}`)).set("v", short(api.MaxStr-1))
	j.runs(t, parted(short(api.MaxStr-1)+"x"))
	j.words = words(`${z:=${v}xy}`)
	j.fails(t, api.ErrLimit)
	j.words = words(`"${z:=${v}'xy'}"`)
	j.fails(t, api.ErrLimit)
	j.words = words(`${z:=$v$v}`)
	j.fails(t, api.ErrLimit)
	j.words = words(`${y:-${z:=${v}xy}}`)
	j.fails(t, api.ErrLimit)
	j.words = words(`${y:=${z:=${v}x}y}`)
	j.fails(t, api.ErrLimit)
	j.words = words(`${y:=${z:=${v}x}}`)
	j.runs(t, parted(short(api.MaxStr-1)+"x"))
	// The blank of a Break counts, and a byte that begins no letter is three.
	half := short(api.MaxStr / 2)
	with(one(`${z:=$@}`)).args(half, half[1:]).runs(t, parted(half+" "+half[1:]))
	with(one(`${z:=$@}`)).args(half, half).fails(t, api.ErrLimit)
	with(one(`${z:=$v}`)).set("v", strings.Repeat("\xff", api.MaxStr/3)).runs(t, parted(strings.Repeat("\ufffd", api.MaxStr/3)))
	with(one(`${z:=$v}`)).set("v", strings.Repeat("\xff", api.MaxStr/3+1)).fails(t, api.ErrLimit)
}

func TestHowLongATextMayBe(t *testing.T) {
	half := short(api.MaxStr / 2)
	j := with(one(`$v"$v"`)).set("v", half)
	j.text(t, half+half)
	j.fields(t, half+half)
	j.words = words(`$v"$v"x`)
	j.runs(t, parted(half), quote(half), plain("x"))
	j.pattern(t, half+strings.Repeat(`\s`, api.MaxStr/2)+"x")
	j.failsAsText(t, api.ErrLimit)
	j.failsAsFields(t, api.ErrLimit)
	j.words = words(`$v $v x$v`)
	j.fields(t, half, half, "x"+half)
	// As a text a Break is a blank; of fields it is none.
	j = with(one(`"$@"`)).args(half, half[1:])
	j.text(t, half+" "+half[1:])
	j.fields(t, half, half[1:])
	j = j.args(half, half)
	j.failsAsText(t, api.ErrLimit)
	j.fields(t, half, half)
	j = j.args(most, most)
	j.failsAsText(t, api.ErrLimit)
	j.fields(t, most, most)
	j.words = words(`x"$@"`)
	j.failsAsFields(t, api.ErrLimit)
	// Of blanks between fields nothing is left.
	j = with(one(`$v`)).set("v", strings.Repeat(" ", api.MaxStr-1)+"x")
	j.fields(t, "x")
	j.words = words(`$v$v`)
	j.failsAsText(t, api.ErrLimit)
	j.fields(t, "x", "x")
	// A byte that begins no letter is three.
	third := strings.Repeat("\xff", api.MaxStr/3)
	j = with(one(`$v`)).set("v", third)
	j.text(t, strings.Repeat("\ufffd", api.MaxStr/3))
	j.fields(t, strings.Repeat("\ufffd", api.MaxStr/3))
	j = j.set("v", third+"\xfe")
	j.runs(t, parted(third+"\xfe"))
	j.failsAsText(t, api.ErrLimit)
	j.failsAsFields(t, api.ErrLimit)
	j.words = words(`"$v"`)
	j.failsAsText(t, api.ErrLimit)
	j.failsAsFields(t, api.ErrLimit)
}

func TestHowLongAFilesNameMayBe(t *testing.T) {
	j := with(words(`*`)...)
	j.files = []string{"a", most, "b"}
	j.fields(t, "a", most, "b")
	j.files = []string{"a", over, "b"}
	j.failsAsFields(t, api.ErrLimit)
	j.files = []string{over}
	j.failsAsFields(t, api.ErrLimit)
	// One that does not match is not looked at, and no files are asked by Text.
	j.words = words(`?`)
	j.files = []string{"a", over, "b"}
	j.fields(t, "a", "b")
	j.words = words(`o q*`)
	j.fields(t, "o", "q*")
	j.words = words(`o*`)
	j.text(t, "o*")
	j.failsAsFields(t, api.ErrLimit)
	// A field is what it stands for at last.
	j.words = words(`$v$v$v`)
	j = j.set("v", strings.Repeat("*", api.MaxStr/2))
	j.files = []string{"a", "b"}
	j.fields(t, "a", "b")
	j.files = nil
	j.failsAsFields(t, api.ErrLimit)
	j.words = words(`$v$v`)
	j.fields(t, strings.Repeat("*", api.MaxStr))
}

func TestHowManyFieldsThereMayBe(t *testing.T) {
	all := slices.Repeat([]string{"x"}, api.MaxArgs)
	many := func(n int) string { return strings.Repeat("x ", n) }
	for _, p := range []func(n int) job{
		func(n int) job { return with(words(many(n))...) },
		func(n int) job { return with(words(`"$@"`)...).args(strings.Fields(many(n))...) },
		func(n int) job { return with(words(`$@`)...).args(strings.Fields(many(n))...) },
		func(n int) job { return with(words(`${z:-$@}`)...).args(strings.Fields(many(n))...) },
		func(n int) job { return with(words(`$v`)...).set("v", many(n)) },
		func(n int) job { return with(words(`${z:-` + many(n) + `}`)...) },
		func(n int) job { return with(words(`${v}x`)...).set("v", many(n-1)) },
		func(n int) job { return with(words(`x $v "x"`)...).set("v", many(n-2)) },
		func(n int) job { return with(words(`$v `+many(n-50))...).set("v", many(50)) },
		func(n int) job {
			j := with(words(`*`)...)
			j.files = strings.Fields(many(n))
			return j
		},
		func(n int) job {
			j := with(words(`? x $e *`)...).args()
			j.files = strings.Fields(many((n - 1) / 2))
			j.words = append(j.words, words(many((n-1)%2))...)
			return j
		},
	} {
		p(api.MaxArgs).fields(t, all...)
		p(api.MaxArgs-1).fields(t, all[1:]...)
		p(api.MaxArgs+1).failsAsFields(t, api.ErrLimit)
		p(9*api.MaxArgs).failsAsFields(t, api.ErrLimit)
	}
	// Runs, Text and Pattern have no bound of that kind, nor have words without a field.
	j := with(one(`"$@"`)).args(strings.Fields(many(3 * api.MaxArgs))...)
	j.text(t, strings.TrimSpace(many(3*api.MaxArgs)))
	if l, _, err := word.Runs(j.words[0], j.env, j.status); len(l) != 6*api.MaxArgs-1 || err != api.OK {
		t.Error(len(l), err)
	}
	with(slices.Repeat(words(`$z`), 5*api.MaxArgs)...).fields(t)
	with(slices.Repeat(words(`''`), api.MaxArgs)...).fields(t, make([]string, api.MaxArgs)...)
	with(slices.Repeat(words(`''`), api.MaxArgs+1)...).failsAsFields(t, api.ErrLimit)
}
