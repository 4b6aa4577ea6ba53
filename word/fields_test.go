package word_test

import (
	"testing"

	"lazarus/api"
)

func TestTheChaptersExample(t *testing.T) {
	with(one(`$x"$x"`)).set("x", "a b").fields(t, "a", "ba b")
}

func TestText(t *testing.T) {
	for s, want := range map[string]string{
		`a`: "a", `''`: "", `'a  b'`: "a  b", `a'b'"c"\d`: "abcd", `$b"$b"`: "a ba b", `$z`: "", `"$z"`: "", `$s`: " p  q ", `"$s"`: " p  q ",
		`$@`: "one  t w", `"$@"`: "one  t w", `x"$@"y`: "xone  t wy", `x'*'*`: "x**", `${z:=a'b'}$z`: "abab", `$((1+1))"$((2))"`: "22", `$f`: "\ufffd\u00e9\ufffd",
		`"$f"`: "\ufffd\u00e9\ufffd", `$g'b'`: "*b", `${z:-$@}`: "one  t w", `"${z:-$@}"`: "one  t w", `$#$?`: "37", `${z:-a b}`: "a b", `$e`: "",
	} {
		with(one(s)).text(t, want)
	}
	with(api.Word{}).text(t, "")
	with(one(`$@`)).args().text(t, "")
	with(one(`"$@"`)).args().text(t, "")
	with(one(`x$@"$@"y`)).args().text(t, "xy")
	with(one(`$@`)).args("").text(t, "")
	with(one(`$@`)).args("", "").text(t, " ")
	with(one(`$@`)).args("", "", "").text(t, "  ")
	with(one(`"$@"`)).args("a", "b").text(t, "a b")
	with(of(lit("a\xffb\xe2\x82"), quoted("\xe9"))).text(t, "a\ufffdb\ufffd\ufffd\ufffd")
	// Bytes that begin no letter stay none, though together they would.
	with(of(lit("\xc3"), lit("\xa9"))).text(t, "\ufffd\ufffd")
}

func TestPattern(t *testing.T) {
	for s, want := range map[string]string{
		`a`: `a`, `''`: ``, `'ab'`: `\a\b`, `*'*'`: `*\*`, `$b"$b"`: `a b\a\ \b`, `$@`: `one  t w`, `"$@"`: `\o\n\e  \t\ \w`, `"x$@"`: `\x\o\n\e  \t\ \w`,
		`$g"$g"`: `*\*`, `[a-c]\[`: `[a-c]\[`, `${z:-*'?'}`: `*\?`, `"${z:-*}"`: `\*`, `${z:='*'}`: `*`, `"${z:=*}"$z`: `\**`, `"${z:-$@}"`: `\o\n\e  \t\ \w`,
		`$((2))"$((3))"`: `2\3`, `$f`: "\ufffd\u00e9\ufffd", `"$e"`: ``,
	} {
		with(one(s)).pattern(t, want)
	}
	with(api.Word{}).pattern(t, ``)
	with(one(`$@`)).args().pattern(t, ``)
	with(one(`"$@"`)).args("", "").pattern(t, ` `)
}

func TestFields(t *testing.T) {
	with().fields(t)
	with(api.Word{}).fields(t)
	with(words(`$z $e ${z:-} ${z:+x}`)...).fields(t)
	with(words(`a`)...).fields(t, "a")
	with(words(`a 'b c' "d"e \f`)...).fields(t, "a", "b c", "de", "f")
	with(words(`'' "" a`)...).fields(t, "", "", "a")
	with(words(`"$z" "$e" "$9" "${z:-}" "${z:+x}" "${a:+}"`)...).fields(t, "", "", "", "", "", "")
	with(words(`$z x $e`)...).fields(t, "x")
	with(words(`$b`)...).fields(t, "a", "b")
	with(words(`$b $b`)...).fields(t, "a", "b", "a", "b")
	with(words(`$s`)...).fields(t, "p", "q")
	with(words(`x$s"y"`)...).fields(t, "x", "p", "q", "y")
	with(words(`"$s"`)...).fields(t, " p  q ")
	with(words(`$f`)...).fields(t, "\ufffd\u00e9\ufffd")
	// A field goes on from part to part.
	with(words(`-$b-$b-`)...).fields(t, "-a", "b-a", "b-")
	with(words(`$a$b'c d'$b`)...).fields(t, "xa", "bc da", "b")
	with(words(`$1$3`)...).fields(t, "onet", "w")
	with(words(`x$z'y'`)...).fields(t, "xy")
	with(words(`$z''`)...).fields(t, "")
	with(words(`$s''`)...).fields(t, "p", "q", "")
	// Only what comes from a value is split.
	with(of(lit("a b"))).fields(t, "a b")
	with(words(`${z:-a b}`)...).fields(t, "a", "b")
	with(words(`${z:-'a b' c}`)...).fields(t, "a b", "c")
	with(words(`"${z:-a b}"`)...).fields(t, "a b")
}

func TestFieldsOfAllArguments(t *testing.T) {
	with(words(`$@`)...).fields(t, "one", "t", "w")
	with(words(`"$@"`)...).fields(t, "one", "", "t w")
	with(words(`x"$@"y`)...).fields(t, "xone", "", "t wy")
	with(words(`x$@y`)...).fields(t, "xone", "t", "wy")
	with(words(`"$@""$@"`)...).fields(t, "one", "", "t wone", "", "t w")
	with(words(`"$@" "$@"`)...).fields(t, "one", "", "t w", "one", "", "t w")
	with(words(`"$@"`)...).args().fields(t)
	with(words(`$@`)...).args().fields(t)
	with(words(`"$@"`)...).args("").fields(t, "")
	with(words(`$@`)...).args("").fields(t)
	with(words(`"$@"''`)...).args().fields(t, "")
	with(words(`x"$@"y`)...).args().fields(t, "xy")
	with(words(`"x$@"`)...).args().fields(t, "x")
}

func TestFiles(t *testing.T) {
	all := someFiles()
	with(words(`*`)...).fields(t, all...)
	with(words(`?b`)...).fields(t, "cb", "ab", "cb")
	with(words(`[a-c]b`)...).fields(t, "cb", "ab", "cb")
	with(words(`a*`)...).fields(t, "ab", "a b")
	with(words(`d*`)...).fields(t, "d")
	with(words(`?`)...).fields(t, "d", "*", "\xff")
	// None matches: the text stays, and the quotes go.
	with(words(`x*`)...).fields(t, "x*")
	with(words(`x'*'?`)...).fields(t, "x*?")
	with(words(`[a`)...).fields(t, "[a")
	with(words(`[x]y`)...).fields(t, "[x]y")
	with(words(`\\*x`)...).fields(t, `\*x`)
	with(words(`"a b"*`)...).fields(t, "a b")
	// A field that has none of the three stays, also where a file has its name.
	with(words(`d ab q`)...).fields(t, "d", "ab", "q")
	with(words(`"*" '?' \[a-c]b "?"b`)...).fields(t, "*", "?", "[a-c]b", "?b")
	with(words(`'*'*`)...).fields(t, "*")
	// From a value, or an argument, it is the same.
	with(words(`$g`)...).fields(t, all...)
	with(words(`"$g"`)...).fields(t, "*")
	with(words(`$g'b'`)...).fields(t, "cb", "ab", "cb", "a b")
	with(words(`$1`)...).args("?b").fields(t, "cb", "ab", "cb")
	with(words(`"$@"`)...).args("?b", "*").fields(t, "?b", "*")
	with(words(`$@`)...).args("?b", "d*").fields(t, "cb", "ab", "cb", "d")
	with(words(`${z:-d*}`)...).fields(t, "d")
	with(words(`${z:-'d*'}`)...).fields(t, "d*")
	with(words(`"${z:-d*}"`)...).fields(t, "d*")
	with(words(`${z:='d*'}`)...).fields(t, "d")
	with(words(`$v`)...).set("v", "d* x* ?b").fields(t, "d", "x*", "cb", "ab", "cb")
	// What matches is taken as it is: it is neither split nor matched anew.
	with(words(`a?b`)...).fields(t, "a b")
	with(words(`[*]`)...).fields(t, "*")
	// A file that two fields match comes twice.
	with(words(`a* ?b`)...).fields(t, "ab", "a b", "cb", "ab", "cb")
	with(words(`d d* *d`)...).fields(t, "d", "d", "d")
}

func TestWithoutFiles(t *testing.T) {
	for _, files := range [][]string{nil, {}, make([]string, 0, 4), someFiles()[:0]} {
		j := with(words(`* ?b '*' $g "$g" [a-c]b x`)...)
		j.files = files
		j.fields(t, "*", "?b", "*", "*", "*", "[a-c]b", "x")
	}
}

func TestFilesInTheirOrder(t *testing.T) {
	j := with(words(`*`)...)
	for _, files := range [][]string{{"a", "b", "c"}, {"c", "b", "a"}, {"b", "b", "a", "b"}, {"a"}, {""}, {"B", "a", "A", "b"}} {
		j.files = files
		j.fields(t, files...)
	}
	j.files = []string{"\xff", "\xfe"}
	j.words = words(`?`)
	j.fields(t, "\xff", "\xfe")
}

// Runs, Text and Pattern ask no files.
func TestFilesAreForFieldsAlone(t *testing.T) {
	j := with(one(`*$g"$g"`))
	j.runs(t, plain("*"), parted("*"), quote("*"))
	j.text(t, "***")
	j.pattern(t, `**\*`)
}
