package parse_test

import (
	"cmp"
	"reflect"
	"slices"
	"strings"
	"testing"

	"lazarus/api"
	"lazarus/parse"
)

// kept are texts whose scripts have all lists that there are, of many lengths, and like ones more than once.
var kept = []string{
	"a", "a; b && c", "a b c d e f g", "a'b'c'd'e'f'g h'i'", "a;b;c;d;e;a;b;c;d;e;", "a|b|c|d|e|a|b|c", "a&&b||c&&d||e", "! a | b",
	"x=1", "x=", "x=''", "x=$y$z", "x=1 y=2 z=3 x=1 a b c", "x=a'b'$c\"d\" x=a'b'$c\"d\" a", "x=${a:-b'c'$d} y=${a:-b'c'$d} ${a:-b'c'$d}",
	">a", ">a <b >>c d", "{ a; } >a <b >>c", "(a) >a'b'c <a'b'c", "if a; then b; elif c; then d; elif e; then a; else b; fi >a >b",
	"for x in a b c d e; do a; done <a", "for x in; do a; done", "while a; do b; done >a", "until a; do b; done",
	"case a in esac", "case a'b' in a) b;; c|d|e) a;; (a|b) c;; esac >a", "case ${a:-'b'c} in ${a:-'b'c}|${a:-'b'c}) a;; esac",
	"f() { a; }", "f() (a; b; c)", "f() { g() { h() { a; }; }; }",
	strings.Repeat("a;", 150), strings.Repeat("{ a; b; }\n", 30), "a" + strings.Repeat(" && a", 90), strings.Repeat("( ", 19) + "a" + strings.Repeat(" )", 19),
	"for i in \"$@\" ; do echo ${#i} ${i:-'none'} >>f # remark\ndone && x=$((i+1)) | cat < $x",
}

// lists are all lists of a script, each with its spare room.
func lists(p *api.Prog) []reflect.Value {
	var l []reflect.Value
	var walk func(v reflect.Value)
	walk = func(v reflect.Value) {
		switch v.Kind() {
		case reflect.Struct:
			for i := range v.NumField() {
				walk(v.Field(i))
			}
		case reflect.Slice:
			l = append(l, v.Slice(0, v.Cap()))
			for i := range v.Len() {
				walk(v.Index(i))
			}
		}
	}
	walk(reflect.ValueOf(p).Elem())
	return l
}

// area is where a list stands.
type area struct{ from, to uintptr }

// areas are those of lists that have some room.
func areas(l []reflect.Value) []area {
	var a []area
	for _, v := range l {
		if size := v.Type().Elem().Size() * uintptr(v.Len()); size > 0 {
			a = append(a, area{v.Pointer(), v.Pointer() + size})
		}
	}
	slices.SortFunc(a, func(x, y area) int { return cmp.Compare(x.from, y.from) })
	return a
}

func TestNoTwoListsShareMemory(t *testing.T) {
	// All scripts are kept till the end, so that none has memory that another one had.
	var all []*api.Prog
	var l []reflect.Value
	for range 2 {
		for _, s := range kept {
			p, _, e := parse.Parse(s)
			if e != api.OK {
				t.Fatalf("%q: %v", s, e)
			}
			all = append(all, &p)
			l = append(l, lists(&p)...)
		}
	}
	a := areas(l)
	for i := range a[1:] {
		if a[i].to > a[i+1].from {
			t.Errorf("two lists share memory: %v", a[i:i+2])
		}
	}
	if len(a) < 1000 || len(all) != 2*len(kept) {
		t.Error("lists:", len(a))
	}
}

// spoil writes over all of a script, its spare room, too.
func spoil(p *api.Prog) {
	l := lists(p)
	for _, v := range slices.Backward(l) {
		for i := range v.Len() {
			v.Index(i).SetZero()
			switch x := v.Index(i).Addr().Interface().(type) {
			case *int:
				*x = -9
			case *api.Node:
				x.Op = "spoilt"
			case *api.Part:
				x.Text = "spoilt"
			case *api.Assign:
				x.Name = "spoilt"
			case *api.Redir:
				x.Op = "spoilt"
			}
		}
	}
}

func TestAnswersStay(t *testing.T) {
	var all []api.Prog
	for _, s := range kept {
		p, _, _ := parse.Parse(s)
		all = append(all, p)
	}
	for range 2 {
		for i, s := range kept {
			want, _, _ := modelParse(s)
			if !alike(all[i], want) {
				t.Errorf("%.60q became %s", s, short(all[i]))
			}
			// Neither another call, nor what is done to its answer, nor an error is seen in any answer.
			p, _, _ := parse.Parse(s)
			spoil(&p)
			parse.Parse(s + "'")
			parse.Parse(s + " )")
			parse.Parse(strings.Repeat("( ", 20) + s)
			if p, at, e := parse.Parse(s); e != api.OK || at != len(s) || !alike(p, want) {
				t.Errorf("%.60q became %s, %d, %v", s, short(p), at, e)
			}
		}
	}
}

func TestAppendedToOneListGoesIntoNoOther(t *testing.T) {
	for _, s := range kept {
		want, _, _ := modelParse(s)
		p, _, _ := parse.Parse(s)
		for i := range p.Nodes {
			n := &p.Nodes[i]
			_ = append(n.Kids, -9, -9, -9)
			_ = append(n.Words, api.Word{}, api.Word{})
			_ = append(n.Pats, nil, nil)
			_ = append(n.Assigns, api.Assign{}, api.Assign{})
			_ = append(n.Redirs, api.Redir{}, api.Redir{})
			for _, l := range n.Pats {
				_ = append(l, api.Word{}, api.Word{})
			}
			for _, w := range n.Words {
				_ = append(w.Parts, api.Part{}, api.Part{})
			}
			for _, g := range n.Assigns {
				_ = append(g.To.Parts, api.Part{}, api.Part{})
			}
		}
		if !alike(p, want) {
			t.Errorf("%.60q became %s", s, short(p))
		}
	}
}
