package tree_test

import (
	"reflect"
	"testing"

	"lazarus/api"
	"lazarus/tree"
)

// full is a script that has everything, so that each place of it can be changed.
func full() api.Prog {
	w := word(lit("a"), in(param("b", ":-", lit("c"), quoted(""), param("d", ":+", arith("1")))), arith("2"), quoted("e"))
	return prog(
		node("seq", 1, 2, 7),
		going(giving(giving(api.Node{Op: "cmd", Words: []api.Word{w, a, w}}, "x", w), "y", a), "<", w),
		going(going(choice(w, []int{3, 4}, []api.Word{a, w}, []api.Word{w}), ">", a), ">>", w),
		c,
		fun("f", 5), node("group", 6), c,
		going(loop("i", 8, "a b"), "<", a), node("and", 9, 10), c, node("not", 11), c,
	)
}

// checkSame holds what Same tells of two scripts, either way round.
func checkSame(t *testing.T, want bool, a, b api.Prog) {
	t.Helper()
	if tree.Same(a, b) != want || tree.Same(b, a) != want {
		t.Errorf("Same(%s, %s) = %v, %v", short(a), short(b), tree.Same(a, b), tree.Same(b, a))
	}
}

func TestSameOfItself(t *testing.T) {
	if !tree.Is(full()) {
		t.Fatal("full is no script")
	}
	checkSame(t, true, full(), full())
	checkSame(t, true, full(), clone(full()))
	p := full()
	checkSame(t, true, p, p)
	for _, p := range []api.Prog{{}, {Root: 1}, {Root: -1}, prog(c), prog(api.Node{}), prog(api.Node{}, api.Node{}), prog(node("group", 0)), prog(node("x", 7, -7)), prog(giving(going(choice(word(), nil, nil), "", word()), "", word()))} {
		checkSame(t, true, p, clone(p))
	}
}

func TestSameOfNoneAndNil(t *testing.T) {
	checkSame(t, true, api.Prog{}, api.Prog{Nodes: []api.Node{}})
	checkSame(t, true, full(), noNil(full()).(api.Prog))
	checkSame(t, true, prog(c), noNil(prog(c)).(api.Prog))
	checkSame(t, true, prog(choice(word(), nil, nil)), noNil(prog(choice(word(), nil, nil))).(api.Prog))
	checkSame(t, false, api.Prog{}, prog(api.Node{}))
	checkSame(t, false, prog(api.Node{}), prog(api.Node{}, api.Node{}))
	checkSame(t, false, prog(choice(a, nil)), prog(choice(a, nil, nil)))
	checkSame(t, false, prog(choice(a, nil, nil)), prog(choice(a, nil, []api.Word{{}})))
	checkSame(t, false, prog(api.Node{Op: "cmd"}), prog(api.Node{Op: "cmd", Words: []api.Word{{}}}))
	checkSame(t, false, prog(api.Node{Op: "cmd", Words: []api.Word{word()}}), prog(api.Node{Op: "cmd", Words: []api.Word{word(api.Part{})}}))
	checkSame(t, false, prog(api.Node{}), prog(giving(api.Node{}, "", word())))
	checkSame(t, false, prog(api.Node{}), prog(going(api.Node{}, "", word())))
}

func TestSameOfEachPlaceThatDiffers(t *testing.T) {
	n := len(places(ptr(full())))
	if n < 300 {
		t.Fatal(n)
	}
	for i := range n {
		for _, change := range changes {
			p := full()
			if change(places(&p)[i]) {
				checkSame(t, alike(p, full()), p, full())
				checkSame(t, true, p, clone(p))
			}
		}
	}
}

func ptr[T any](x T) *T { return &x }

// changes are what can be done to a place; each tells whether it did.
var changes = []func(reflect.Value) bool{
	func(v reflect.Value) bool { return v.CanInt() && set(v, v.Int()+1) },
	func(v reflect.Value) bool { return v.CanInt() && set(v, v.Int()-1) },
	func(v reflect.Value) bool { return v.CanInt() && set(v, v.Int()+1<<32) },
	func(v reflect.Value) bool { return v.Kind() == reflect.Bool && set(v, !v.Bool()) },
	func(v reflect.Value) bool { return v.Kind() == reflect.String && set(v, v.String()+"x") },
	func(v reflect.Value) bool { return v.Kind() == reflect.String && set(v, "x"+v.String()) },
	func(v reflect.Value) bool { return v.Kind() == reflect.String && set(v, v.String()+"\x00") },
	func(v reflect.Value) bool { return v.Kind() == reflect.String && set(v, "") },
	func(v reflect.Value) bool { return has(v, 1) && set(v, v.Slice(1, v.Len()).Interface()) },
	func(v reflect.Value) bool { return has(v, 1) && set(v, v.Slice(0, v.Len()-1).Interface()) },
	func(v reflect.Value) bool { return has(v, 0) && set(v, more(v).Interface()) },
	func(v reflect.Value) bool { return has(v, 1) && set(v, reflect.AppendSlice(v, v).Interface()) },
	func(v reflect.Value) bool { return has(v, 0) && set(v, reflect.Zero(v.Type()).Interface()) },
	func(v reflect.Value) bool { return has(v, 2) && swap(v) },
}

// set sets a place to a value.
func set(v reflect.Value, to any) bool {
	v.Set(reflect.ValueOf(to).Convert(v.Type()))
	return true
}

// has tells whether it is a list of n elements or more.
func has(v reflect.Value, n int) bool { return v.Kind() == reflect.Slice && v.Len() >= n }

// more is a list with one more element that is nothing.
func more(v reflect.Value) reflect.Value { return reflect.Append(v, reflect.Zero(v.Type().Elem())) }

// swap changes the first two elements of a list for one another.
func swap(v reflect.Value) bool {
	reflect.Swapper(v.Interface())(0, 1)
	return true
}

func TestSameOfDeepWords(t *testing.T) {
	for _, n := range []int{1, 20, 21, 1000, 60000} {
		p := prog(api.Node{Op: "cmd", Words: []api.Word{word(deep(n, lit("x"))...)}})
		checkDeep := func(want bool, l ...api.Part) {
			t.Helper()
			q := prog(api.Node{Op: "cmd", Words: []api.Word{word(l...)}})
			if tree.Same(p, q) != want || tree.Same(q, p) != want {
				t.Error("Words", n, "deep:", !want)
			}
		}
		checkDeep(true, deep(n, lit("x"))...)
		checkDeep(false, deep(n, lit("y"))...)
		checkDeep(false, deep(n, quoted("x"))...)
		checkDeep(false, deep(n)...)
		checkDeep(false, deep(n+1, lit("x"))...)
		checkDeep(false, deep(n-1, lit("x"))...)
		if tree.Is(p) != (n <= api.MaxDepth) {
			t.Error("Is of Words", n, "deep")
		}
	}
}
