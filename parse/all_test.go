package parse_test

import (
	"math/rand/v2"
	"slices"
	"strings"
	"testing"

	"lazarus/api"
	"lazarus/parse"
	"lazarus/tree"
)

// checkByModel holds what a text is parsed as against the model; it tells what the model says.
func checkByModel(t *testing.T, s string) (int, api.Errno) {
	t.Helper()
	want, wantAt, wantErr := modelParse(s)
	p, at, e := parse.Parse(s)
	if e != wantErr || at != wantAt || !alike(p, want) {
		t.Errorf("Parse(%.400q) = %s, %d, %v, not %s, %d, %v", s, short(p), at, e, short(want), wantAt, wantErr)
	}
	if e == api.OK && !tree.Is(p) {
		t.Errorf("Parse(%.400q) is none: %s", s, short(p))
	}
	return wantAt, wantErr
}

// rows goes through all rows of up to so many of these tokens, but does not go on behind what no script begins with; it tells how many of them are scripts.
func rows(t *testing.T, ahead string, size int, of []string) int {
	at, e := checkByModel(t, ahead)
	n := 0
	if e == api.OK {
		n++
	}
	if size == 0 || e != api.OK && at < len(ahead) {
		return n
	}
	for _, s := range of {
		n += rows(t, ahead+s+" ", size-1, of)
	}
	return n
}

// every is each token, and words of each kind.
var every = append([]string{"&&", "||", ";;", ";", "|", "(", ")", ">>", ">", "<", "\n", "a", "'a'", "$a", "x=1", "y=", "1=x", "'if'", "abcdefghijklm"}, reserved...)

func TestAllShortRows(t *testing.T) {
	if n := rows(t, "", 3, every); n < 1000 {
		t.Error("scripts:", n)
	}
}

func TestAllShortRowsBehindOthers(t *testing.T) {
	for _, ahead := range []string{
		"a ", "a ; ", "a \n ", "a && ", "a || \n ", "a | ", "! ", "! a ", "{ ", "{ a ; ", "{ a ; } ", "( ", "( a ", "( a ) ", ">a ", "x=1 ", "x=1 >a ", "a >b ", "a > ", "a b ",
		"if ", "if a ; ", "if a ; then ", "if a ; then b ; ", "if a ; then b ; else ", "if a ; then b ; else c ; ", "if a ; then b ; elif ", "if a ; then b ; elif c ; ", "if a ; then b ; elif c ; then d ; ", "if a ; then b ; elif c ; then d ; else e ; ", "if a ; then b ; fi ", "if a ; then b ; elif c ; then d ; fi ",
		"while ", "while a ; ", "while a ; do ", "while a ; do b ; ", "while a ; do b ; done ", "until a \n do ",
		"for ", "for x ", "for x in ", "for x in a ", "for x in ; ", "for x in \n ", "for x in a ; do ", "for x in a ; do b ; ", "for x in ; do b ; done ",
		"case ", "case a ", "case a in ", "case a in \n ", "case a in ( ", "case a in b ", "case a in b | ", "case a in ( b | c ", "case a in b ) ", "case a in b ) c ", "case a in b ) c ; ", "case a in b ) c ;; ", "case a in b ) c ;; \n ", "case a in b ) c ;; esac ", "case a in esac ",
		"f ", "f ( ", "f ( ) ", "f ( ) \n ", "f ( ) { ", "f ( ) { a ; ", "f ( ) { a ; } ", "f ( ) ( a ", "f ( ) ( a ) ",
	} {
		rows(t, ahead, 2, every)
	}
}

func TestAllRowsOfOneKind(t *testing.T) {
	for _, x := range []struct {
		of    string
		size  int
		least int
	}{
		{"a,;,|,&&,!", 6, 500},
		{"a,;,NL,&&,||", 6, 500},
		{"a,NL,|,(,)", 6, 300},
		{"a,;,{,},(", 6, 500},
		{"a;,if,then,fi,else,elif", 8, 30},
		{"a NL,if,then,(a),fi,elif,>x", 6, 200},
		{"a;,while,do,done,until,|", 6, 10},
		{"(a),;,while,do,done,>x,a", 5, 1000},
		{"a NL,for,x,in,;,do,done,NL", 4, 500},
		{"for x in,a,NL,do,done,b;,(c),>d", 4, 500},
		{"a,case,in,esac,),;;", 6, 1000},
		{"case a in,b,c;;,),(,|,esac,NL", 5, 400},
		{"case a in,b ),c,;;,esac,;,>d,NL", 5, 1000},
		{"f,(,),{,},;", 6, 500},
		{"f ( ),(,),{,},a;,NL,>b", 4, 100},
		{"a,x=1,>,<,|,'x'=1", 5, 2000},
		{"a,if,>,'if',x=,;", 4, 500},
		{"x=1,y=,if,>,a", 5, 2000},
	} {
		of := strings.Split(strings.ReplaceAll(x.of, "NL", "\n"), ",")
		if n := rows(t, "", x.size, of); n < x.least {
			t.Errorf("%s: %d scripts", x.of, n)
		}
	}
}

// writer makes scripts by the grammar, by a row of numbers that is always the same; left is how many more nodes it may make.
type writer struct {
	r    *rand.Rand
	left int
}

// pick is one of these.
func pick[T any](w *writer, l ...T) T { return l[w.r.IntN(len(l))] }

// row is the tokens of an expression.
func (w *writer) row(x expr) []string {
	var l []string
	switch x.kind {
	case '|':
		// Where enough was made a command is the last one that it may be, a simple one.
		if w.left < 0 {
			return w.row(x.of[len(x.of)-1])
		}
		return w.row(pick(w, x.of...))
	case '&':
		for _, y := range x.of {
			l = append(l, w.row(y)...)
		}
	case '[':
		if w.left >= 0 && w.r.IntN(3) == 0 {
			return w.row(x.of[0])
		}
	case '{':
		for w.left >= 0 && w.r.IntN(3) == 0 {
			l = append(l, w.row(x.of[0])...)
		}
	case '.':
		if y, ok := rules[x.name]; ok {
			w.left--
			if x.name == "tail" && w.left < 0 {
				return []string{"fi"}
			}
			l = w.row(y)
			// What would end a list is an argument, where nothing stands between; such are made, too, but few.
			if x.name == "list" && w.r.IntN(8) > 0 && l[len(l)-1] != ";" && l[len(l)-1] != "\n" {
				l = append(l, pick(w, ";", "\n"))
			}
			return l
		}
		return w.token(x.name)
	}
	return l
}

// token is a token that may be had as that.
func (w *writer) token(as string) []string {
	first := []string{"a", "b", "echo", "'if'", "\"$x\"", "$x", "''", "\\}", "${x:-a b}", "$((1+1))", "$((x=1))", "1=x", "'x'=1", "a'b'c", "\u00e9", "-n", "*", "d#e", "ifx", "x'='1", "abcdefghijklm=1"}
	assign := []string{"x=1", "y=", "z=''", "x=$y", "if=a=b", "_9=\"a b\"c", "abcdefghijkl=#"}
	switch as {
	case "TEnd", "whole":
		return nil
	case "NL":
		return []string{pick(w, "\n", "\n", "# a 'b\n")}
	case "word":
		return []string{pick(w, pick(w, first...), pick(w, assign...), pick(w, reserved...))}
	case "first":
		return []string{pick(w, first...)}
	case "second":
		return []string{pick(w, pick(w, first...), pick(w, reserved...))}
	case "pattern":
		return []string{pick(w, pick(w, first...), pick(w, assign...), "if", "in", "}")}
	case "assign":
		return []string{pick(w, assign...)}
	case "name":
		return []string{pick(w, "x", "y", "if", "in", "esac", "abcdefghijkl", "_")}
	case "function":
		return []string{pick(w, "f", "g", "echo", "abcdefghijkl", "_1", "iff")}
	}
	return []string{strings.Trim(as, `"`)}
}

// written is tokens with what may stand between them.
func (w *writer) written(l []string) string {
	var b strings.Builder
	for i, s := range l {
		b.WriteString(pick(w, "", "", " ", "\t", " \t "))
		// Two tokens that side by side would be another one, and remarks, need a blank.
		if i > 0 && (isSign(s) == isSign(l[i-1]) || s[0] == '#') && !strings.HasSuffix(l[i-1], "\n") {
			b.WriteString(" ")
		}
		b.WriteString(s)
	}
	return b.String() + pick(w, "", "", " ", " # a", "\t")
}

// isSign tells whether it is one, or a remark.
func isSign(s string) bool { return strings.ContainsAny(s[:1], "&|;()<>\n#") }

// script is the tokens of a script.
func (w *writer) script(size int) []string {
	w.left = size
	return w.row(expr{kind: '.', name: "script"})
}

func TestMadeUpScripts(t *testing.T) {
	w := &writer{r: rand.New(rand.NewPCG(10, 1))}
	seen := map[string]int{}
	most, good, bad := 0, 0, 0
	for range 1000 {
		l := w.script(1 + w.r.IntN(120))
		if len(l) > 150 {
			continue
		}
		s := w.written(l)
		if _, e := checkByModel(t, s); e == api.OK {
			good++
		}
		p, _, _ := parse.Parse(s)
		for _, n := range p.Nodes {
			seen[n.Op]++
		}
		most = max(most, len(p.Nodes))
		// The same with a token less, one more, another one, or two of them in turn.
		for range 3 {
			if _, e := checkByModel(t, w.written(w.spoilt(l))); e != api.OK {
				bad++
			}
		}
		// The same with a byte less.
		at := w.r.IntN(len(s))
		checkByModel(t, s[:at]+s[at+1:])
		checkByModel(t, s[:at])
	}
	if most < 20 || good < 600 || bad < 1500 || len(seen) != 14 {
		t.Error("most nodes:", most, "rows that are scripts:", good, "that are none:", bad, seen)
	}
}

// spoilt is tokens that were changed in one place.
func (w *writer) spoilt(l []string) []string {
	l = slices.Clone(l)
	at := w.r.IntN(len(l))
	switch w.r.IntN(4) {
	case 0:
		return slices.Delete(l, at, at+1)
	case 1:
		return slices.Insert(l, at, pick(w, every...))
	case 2:
		l[at] = pick(w, every...)
	default:
		other := w.r.IntN(len(l))
		l[at], l[other] = l[other], l[at]
	}
	return l
}

func TestMadeUpDeepOnes(t *testing.T) {
	w := &writer{r: rand.New(rand.NewPCG(10, 2))}
	seen := map[api.Errno]int{}
	for range 800 {
		ahead, behind := "", ""
		for n := 14 + w.r.IntN(8); n > 0; {
			x := pick(w, around...)
			ahead, behind = ahead+x.ahead, x.behind+behind
			n -= x.n
		}
		core := pick(w, "a", "a", "a", w.written(w.script(20)), w.written(w.spoilt(w.script(20))), pick(w, every...), "", "\n", "! ", "! !", "f() {", "f()", "f(")
		_, e := checkByModel(t, ahead+core+behind)
		seen[e]++
		checkByModel(t, ahead+core)
	}
	if seen[api.OK] < 50 || seen[api.ErrForm] < 50 || seen[api.ErrLimit] < 50 {
		t.Error(seen)
	}
}

func FuzzParse(f *testing.F) {
	for _, s := range kept {
		f.Add(s)
	}
	for s := range compounds {
		f.Add(s + " >a && " + s)
	}
	w := &writer{r: rand.New(rand.NewPCG(10, 4))}
	for range 200 {
		f.Add(w.written(w.script(40)))
	}
	f.Fuzz(func(t *testing.T, s string) {
		if len(s) <= 300 {
			checkByModel(t, s)
		}
		p, at, e := parse.Parse(s)
		if e == api.OK && (at != len(s) || !tree.Is(p)) || e != api.OK && !alike(p, api.Prog{}) {
			t.Errorf("Parse(%q) = %s, %d, %v", s, short(p), at, e)
		}
	})
}
