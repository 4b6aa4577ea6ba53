package env

import (
	"slices"
	"strings"

	"lazarus/api"
)

func varName(b api.Binding) string { return b.Name }

func funName(f api.Fun) string { return f.Name }

// find is where a name stands in a list, or where it would, and whether it does.
func find[T any](l []T, name string, nameOf func(T) string) (int, bool) {
	return slices.BinarySearchFunc(l, name, func(x T, name string) int { return strings.Compare(nameOf(x), name) })
}

// with is the list with an entry, that of its name being gone.
func with[T any](l []T, x T, nameOf func(T) string) []T {
	i, ok := find(l, nameOf(x), nameOf)
	behind := l[i:]
	if ok {
		behind = behind[1:]
	}
	return slices.Concat(l[:i], []T{x}, behind)
}

// without is the list without the entry of a name.
func without[T any](l []T, name string, nameOf func(T) string) []T {
	i, ok := find(l, name, nameOf)
	if !ok {
		return slices.Concat(l)
	}
	return slices.Concat(l[:i], l[i+1:])
}

// ordered tells whether each name is greater than the one ahead of it, so that none is there twice.
func ordered[T any](l []T, nameOf func(T) string) bool {
	for i := 1; i < len(l); i++ {
		if nameOf(l[i-1]) >= nameOf(l[i]) {
			return false
		}
	}
	return true
}
