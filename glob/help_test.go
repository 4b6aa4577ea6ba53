package glob_test

import (
	"testing"

	"lazarus/api"
	"lazarus/glob"
)

// pat is a pattern: what stands behind a backslash is Quoted.
func pat(s string) []api.Char {
	var l []api.Char
	quoted := false
	for _, r := range s {
		if r == '\\' && !quoted {
			quoted = true
			continue
		}
		l = append(l, api.Char{R: r, Q: quoted})
		quoted = false
	}
	return l
}

// letters are those of a text, Quoted or not.
func letters(s string, quoted bool) []api.Char {
	l := []api.Char{}
	for _, r := range s {
		l = append(l, api.Char{R: r, Q: quoted})
	}
	return l
}

// plain is a text whose bytes that are none are U+FFFD.
func plain(s string) string { return string([]rune(s)) }

// yes holds that a pattern matches each of these.
func yes(t *testing.T, p string, l ...string) {
	t.Helper()
	check(t, p, true, l)
}

// no holds that a pattern matches none of these.
func no(t *testing.T, p string, l ...string) {
	t.Helper()
	check(t, p, false, l)
}

// check holds what a pattern matches, and that the model has it so.
func check(t *testing.T, p string, want bool, l []string) {
	t.Helper()
	m := modelOf(pat(p))
	for _, s := range l {
		if got := glob.Match(pat(p), s); got != want {
			t.Errorf("%.60q of %.60q: %v", p, s, got)
		}
		if got := m.matches(s); got != want {
			t.Errorf("the model: %.60q of %.60q: %v", p, s, got)
		}
	}
}

// only holds which of the ASCII letters, and of some others, are the only texts of one letter that a pattern matches, and that it matches none of another length.
func only(t *testing.T, p, want string) {
	t.Helper()
	found := ""
	all := "\u00e9\u0416\u20ac\ufffd\U0001f600"
	for r := rune(127); r >= 0; r-- {
		all = string(r) + all
	}
	for _, r := range all {
		if glob.Match(pat(p), string(r)) {
			found += string(r)
		}
		if glob.Match(pat(p), string(r)+"a") || glob.Match(pat(p), "a"+string(r)) {
			t.Errorf("%q matches %q beside an a", p, r)
		}
	}
	if found != want || glob.Match(pat(p), "") {
		t.Errorf("%q matches %q; want %q", p, found, want)
	}
}

// but is all that only asks of, without these letters.
func but(without string) string {
	s := ""
	for r := range rune(128) {
		s += string(r)
	}
	for _, r := range "\u00e9\u0416\u20ac\ufffd\U0001f600" {
		s += string(r)
	}
	left := ""
	for _, r := range s {
		if !among(without, r) {
			left += string(r)
		}
	}
	return left
}

// among tells whether a letter is one of these.
func among(l string, r rune) bool {
	for _, x := range l {
		if x == r {
			return true
		}
	}
	return false
}
