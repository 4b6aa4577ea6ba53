package show_test

import (
	"fmt"
	"math"
	"math/rand/v2"
	"reflect"
	"strings"
	"testing"

	"lazarus/api"
	"lazarus/show"
	"lazarus/tree"
)

// full is a script that has all lists there are.
func full() made {
	return op("seq",
		cmd(`a 'b'"$c" ${d:-e'f'"${g:+h}"}`).gives("x", "''").gives("y", "$z").goes(">", "f").goes("<", `"g"h`),
		op("if", op("not", op("pipe", a, b)), op("and", a, op("or", b, c).in("group")), each("x", "a 'b' $c", d).goes(">>", "f")).goes("<", "g"),
		choice("${a:-b}").has("c 'd'", a).has("${e:+'f'}", op("while", a, b)).goes(">", "h"),
		fun("f", op("sub", op("until", a, b).goes("<", "g"))),
	)
}

// in is it within a group or sub.
func (m made) in(kind string) made { return op(kind, m) }

// places are all places within what x points to that can be changed.
func places(x any) []reflect.Value {
	var l []reflect.Value
	var walk func(v reflect.Value)
	walk = func(v reflect.Value) {
		switch v.Kind() {
		case reflect.Struct:
			for i := range v.NumField() {
				walk(v.Field(i))
			}
			return
		case reflect.Slice:
			for i := range v.Len() {
				walk(v.Index(i))
			}
		}
		l = append(l, v)
	}
	walk(reflect.ValueOf(x).Elem())
	return l
}

// clone is a copy that shares no memory, each list of which is made by make from its elements' copies.
func clone(p api.Prog, make func(reflect.Value) reflect.Value) api.Prog {
	var copied func(v reflect.Value) reflect.Value
	copied = func(v reflect.Value) reflect.Value {
		to := reflect.New(v.Type()).Elem()
		switch v.Kind() {
		case reflect.Struct:
			for i := range v.NumField() {
				to.Field(i).Set(copied(v.Field(i)))
			}
		case reflect.Slice:
			for i := range v.Len() {
				to = reflect.Append(to, copied(v.Index(i)))
			}
			to = make(to)
		default:
			to.Set(v)
		}
		return to
	}
	return copied(reflect.ValueOf(p)).Interface().(api.Prog)
}

// same is a list as it is; roomy one with room behind its end, in which something stands; present an empty one where there was none, absent none where there was an empty one.
func same(v reflect.Value) reflect.Value { return v }

func roomy(v reflect.Value) reflect.Value {
	behind := reflect.New(v.Type().Elem()).Elem()
	switch x := behind.Addr().Interface().(type) {
	case *int:
		*x = 77
	case *api.Node:
		*x = cmd("behind").Node
	case *api.Word:
		*x = word(lit("behind"))
	case *[]api.Word:
		*x = words("behind")
	case *api.Assign:
		*x = api.Assign{Name: "behind", To: word(lit("x"))}
	case *api.Redir:
		*x = api.Redir{Op: ">", To: word(lit("behind"))}
	case *api.Part:
		*x = lit("behind")
	default:
		panic("a list of another kind")
	}
	to := reflect.MakeSlice(v.Type(), 0, v.Len()+2)
	return reflect.Append(reflect.AppendSlice(to, v), behind, behind).Slice(0, v.Len())
}

func present(v reflect.Value) reflect.Value {
	if v.IsNil() {
		return reflect.MakeSlice(v.Type(), 0, 0)
	}
	return v
}

func absent(v reflect.Value) reflect.Value {
	if v.Len() == 0 {
		return reflect.Zero(v.Type())
	}
	return v
}

// whole is all of a script as a text, with what stands behind its lists' ends.
func whole(p api.Prog) string {
	var b strings.Builder
	var walk func(v reflect.Value)
	walk = func(v reflect.Value) {
		switch v.Kind() {
		case reflect.Struct:
			for i := range v.NumField() {
				walk(v.Field(i))
			}
		case reflect.Slice:
			fmt.Fprint(&b, "[", v.Len(), " ", v.Cap(), ":")
			for i := range v.Cap() {
				walk(v.Slice(0, v.Cap()).Index(i))
			}
			b.WriteString("]")
		default:
			fmt.Fprintf(&b, "%#v,", v.Interface())
		}
	}
	walk(reflect.ValueOf(p))
	return b.String()
}

func TestWhatIsHandedInStays(t *testing.T) {
	r := rand.New(rand.NewPCG(11, 3))
	for i := range 200 {
		m := full()
		if i > 0 {
			m = madeUp(r)
		}
		p := clone(m.prog(), roomy)
		was := whole(p)
		want := modelText(m)
		for range 2 {
			if s := show.Text(p); s != want {
				t.Fatalf("%q, not %q", s, want)
			}
			for _, n := range p.Nodes {
				for _, w := range n.Words {
					if s := show.Word(w); s != modelWord(w.Parts) {
						t.Fatalf("%q of %s", s, short(w))
					}
				}
			}
			if whole(p) != was {
				t.Fatalf("changed: %s", short(p))
			}
		}
	}
}

func TestNoListIsAnEmptyOne(t *testing.T) {
	r := rand.New(rand.NewPCG(11, 4))
	for i := range 100 {
		m := full()
		if i > 0 {
			m = madeUp(r)
		}
		want := modelText(m)
		for _, make := range []func(reflect.Value) reflect.Value{same, present, absent} {
			if s := show.Text(clone(m.prog(), make)); s != want {
				t.Errorf("%q, not %q", s, want)
			}
		}
	}
	if show.Word(api.Word{}) != "" || show.Word(api.Word{Parts: []api.Part{}}) != "" {
		t.Error("a word without parts")
	}
	for _, l := range [][]api.Part{nil, {}} {
		if s := show.Word(word(param("a", ":-", l...))); s != "${a:-}" {
			t.Errorf("%q", s)
		}
	}
}

func TestAnswersStay(t *testing.T) {
	p := clone(full().prog(), same)
	want := modelText(full())
	s := show.Text(p)
	l := []api.Part{lit("a"), quoted("b"), param("c", ":-", lit("d"))}
	w := show.Word(word(l...))
	// Nothing of an elder call is kept, and none is changed by a later one, or by what is done to its argument.
	for _, v := range places(&p) {
		if x, ok := v.Addr().Interface().(*string); ok && *x == "a" {
			*x = "changed"
		}
	}
	if again := show.Text(p); again == want || !strings.Contains(again, "changed") {
		t.Errorf("another script is shown as %q", again)
	}
	l[0], l[2].Word[0] = lit("x"), lit("y")
	if again := show.Word(word(l...)); again != `x"b"${c:-y}` {
		t.Errorf("another word is shown as %q", again)
	}
	if s != want || w != `a"b"${c:-d}` {
		t.Errorf("became %q, %q", s, w)
	}
}

func TestWhatIsNoScriptEnds(t *testing.T) {
	g := func(kids ...int) api.Node { return api.Node{Op: "group", Kids: kids} }
	s := func(kids ...int) api.Node { return api.Node{Op: "seq", Kids: kids} }
	c := cmd("c").Node
	for _, l := range [][]api.Node{
		nil, {}, {{}}, {g(0)}, {g(1), g(0)}, {g(1)}, {g(-1)}, {g(math.MinInt)}, {g(math.MaxInt)}, {s(1, 1), c}, {s(2, 1), c, c}, {s(1, 2), c, g(1)}, {c, c}, {g(2), c, c}, {g()}, {s()}, {s(1), c}, {s(1, 2), c},
		{{Op: "if", Kids: []int{1, 2, 3, 4}}, c, c, c, c}, {{Op: "not"}}, {{Op: "and", Kids: []int{1}}, c}, {{Op: "case", Words: words("a"), Kids: []int{1}}, c}, {{Op: "case"}}, {{Op: "for", Kids: []int{1}}, c}, {{Op: "while"}}, {{Op: "fun", Name: "f"}}, {{Op: "cmd"}}, {{Op: "none"}},
		{{Op: "cmd", Words: []api.Word{{}}}}, {{Op: "cmd", Words: words("x=1")}}, {{Op: "cmd", Words: words("if")}}, {{Op: "cmd", Words: []api.Word{word(lit("#"))}}}, {{Op: "cmd", Redirs: []api.Redir{{Op: "<>", To: word(lit("a"))}}}}, {{Op: "cmd", Assigns: []api.Assign{{Name: "1"}}}},
		{{Op: "case", Words: words("a"), Pats: [][]api.Word{words("b")}}}, {{Op: "case", Words: words("a"), Pats: [][]api.Word{nil}, Kids: []int{1}}, c}, {{Op: "fun", Name: "f", Kids: []int{1}}, c}, make([]api.Node, 1<<16),
	} {
		for _, root := range []int{0, 1, -1, math.MinInt, math.MaxInt} {
			p := api.Prog{Nodes: l, Root: root}
			if s := show.Text(p); s != "" || tree.Is(p) {
				t.Errorf("%q of %s", s, short(p))
			}
		}
	}
	// Each is twice the kid of the one ahead: all ways through them are more than could ever be gone.
	var twice []api.Node
	for i := range api.MaxNodes - 1 {
		twice = append(twice, s(i+1, i+1))
	}
	if s := show.Text(api.Prog{Nodes: append(twice, c)}); s != "" {
		t.Errorf("%.60q", s)
	}
}

func TestChangedScriptsEnd(t *testing.T) {
	r := rand.New(rand.NewPCG(11, 5))
	one, none := 0, 0
	for range 3000 {
		p := clone(madeUp(r).prog(), same)
		for range 1 + r.IntN(3) {
			l := places(&p)
			switch x := l[r.IntN(len(l))].Addr().Interface().(type) {
			case *int:
				*x = []int{*x + 1, *x - 1, 0, -1, len(p.Nodes), math.MaxInt}[r.IntN(6)]
			case *bool:
				*x = !*x
			case *string:
				*x = []string{"", "x", "cmd", "seq", "if", "case", "fun", "group", ":-", "#", "a b", "\xff", "\x00", ">", "if"}[r.IntN(15)]
			case *[]api.Node:
				*x = append((*x)[:len(*x):len(*x)], cmd("a").Node)
			case *[]int:
				*x = append((*x)[:len(*x):len(*x)], len(p.Nodes)-1)
			case *[][]api.Word:
				*x = append((*x)[:len(*x):len(*x)], words("p"))
			case *[]api.Word:
				*x = nil
			case *[]api.Part:
				*x = nil
			}
		}
		switch s := show.Text(p); {
		case !tree.Is(p):
			none++
			if s != "" {
				t.Fatalf("%q of %s", s, short(p))
			}
		default:
			one++
			checkByModel(t, unmade(p, 0))
		}
	}
	if one < 200 || none < 1000 {
		t.Error("scripts:", one, "others:", none)
	}
}

func TestWhatIsNoWordEnds(t *testing.T) {
	// A list may have itself within.
	round := []api.Part{param("a", ":-")}
	round[0].Word = round
	odd := []api.Part{arith("1"), lit("a")}
	odd[0].Word, odd[1].Word = odd, odd
	for _, l := range [][]api.Part{
		round, odd, {lit("")}, {lit("a"), lit("b")}, {lit("a b")}, {lit("\x00")}, {quoted("\xff")}, {param("", "")}, {param("a", ":?")}, {param("a", "", lit("b"))}, {param("1", ":=")}, {param("@", "#")}, {arith(")(")}, {arith("$")}, {{}}, {{Kind: 4}}, {{Kind: math.MinInt}}, {{Kind: math.MaxInt, Text: "a"}},
		deep(api.MaxDepth+1, lit("a")), deep(1<<16, lit("a")),
	} {
		if s := show.Word(word(l...)); s != "" || tree.Word(word(l...)) {
			t.Errorf("%q", s)
		}
	}
	p := api.Prog{Nodes: []api.Node{{Op: "cmd", Words: []api.Word{word(round...)}}}}
	if s := show.Text(p); s != "" {
		t.Errorf("%q", s)
	}
}
