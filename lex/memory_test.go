package lex_test

import (
	"strconv"
	"strings"
	"testing"

	"lazarus/api"
	"lazarus/lex"
)

// kept are texts whose answers have lists of many lengths, within one another, and like ones more than once.
var kept = []string{
	"", "a", "a b c d e f g", "a'b'c'd'e'f'g", "$a$b$c$d$e", ";;;;;;;;;;;;;", "\n\n\n",
	"a\"$b\"", "\"$a b$c\"", "a \"b\"'c' \"b\"'c'", "${a:-x} ${a:-x} ${a:-x}", "${a:-}${a:-}", "''\"\"'' ''",
	"${a:-b'c'$d}${a:-b'c'$d}|\"${a:-b'c'$d}\"", "x${a:-y${b:=z${c:+w'v'}u}t}s", "$((1))$((1))\"$((1))\"",
	deep(20, "x'y'z"), deep(20, ""), strings.Repeat("a'b'", 100), strings.Repeat("${a:-x'y'}", 100), strings.Repeat("a;", 500),
	"for i in \"$@\" ; do echo ${#i} ${i:-'none'} >>f # remark\ndone && x=$((i+1)) | cat < $x",
}

// lists goes through all lists of parts of an answer, those that stand around others ahead of them.
func lists(l []api.Token, see func([]api.Part)) {
	var walk func([]api.Part)
	walk = func(parts []api.Part) {
		see(parts)
		for _, p := range parts {
			walk(p.Word)
		}
	}
	for _, k := range l {
		walk(k.Word.Parts)
	}
}

// spoil writes over all of an answer, its spare room, too.
func spoil(l []api.Token) {
	var all [][]api.Part
	lists(l, func(parts []api.Part) { all = append(all, parts[:cap(parts)]) })
	for _, parts := range all {
		for i := range parts {
			parts[i] = api.Part{Kind: 9, Text: "spoilt", Op: "spoilt", Word: []api.Part{{Kind: 9}}}
		}
	}
	l = l[:cap(l)]
	for i := range l {
		l[i] = api.Token{Kind: 9, Text: "spoilt", At: -9}
	}
}

func TestAnswersShareNoMemory(t *testing.T) {
	for _, s := range kept {
		want, at, _ := model(s)
		one, _, _ := lex.Tokens(s)
		other, _, _ := lex.Tokens(s)
		spoil(one)
		if !same(other, want) {
			t.Errorf("%.60q became %+v", s, other)
		}
		// What the spare room of the other one has is not looked at: it must not be that of the first.
		for _, k := range other[:cap(other)] {
			if k.Kind == 9 {
				t.Errorf("%.60q shares the spare room of its tokens", s)
			}
		}
		lists(other, func(parts []api.Part) {
			for _, p := range parts[:cap(parts)] {
				if p.Kind == 9 {
					t.Errorf("%.60q shares the spare room of its parts", s)
				}
			}
		})
		if l, gotAt, e := lex.Tokens(s); !same(l, want) || gotAt != at || e != api.OK {
			t.Errorf("Tokens(%.60q) became %+v, %d, %v", s, l, gotAt, e)
		}
	}
}

func TestListsOfOneAnswerShareNoMemory(t *testing.T) {
	for _, s := range kept {
		l, _, _ := lex.Tokens(s)
		// Each place of each list, those of the spare room too, is given a number of its own, and must keep it.
		n := 0
		lists(l, func(parts []api.Part) {
			for i := range parts[:cap(parts)] {
				n++
				parts[:cap(parts)][i].Text = strconv.Itoa(n)
			}
		})
		n = 0
		lists(l, func(parts []api.Part) {
			for i := range parts[:cap(parts)] {
				n++
				if got := parts[:cap(parts)][i].Text; got != strconv.Itoa(n) {
					t.Errorf("%.60q: place %d is place %s, too", s, n, got)
				}
			}
		})
	}
}

func TestAppendedToOneListGoesIntoNoOther(t *testing.T) {
	for _, s := range kept {
		want, _, _ := model(s)
		l, _, _ := lex.Tokens(s)
		lists(l, func(parts []api.Part) {
			_ = append(parts, api.Part{Kind: 9}, api.Part{Kind: 9}, api.Part{Kind: 9})
		})
		_ = append(l, api.Token{Kind: 9}, api.Token{Kind: 9})
		if !same(l, want) {
			t.Errorf("%.60q became %+v", s, l)
		}
	}
}

func TestAnswersStay(t *testing.T) {
	var all [][]api.Token
	for _, s := range kept {
		l, _, _ := lex.Tokens(s)
		all = append(all, l)
	}
	for range 2 {
		for i, s := range kept {
			want, _, _ := model(s)
			if !same(all[i], want) {
				t.Errorf("%.60q became %+v", s, all[i])
			}
			_, _, _ = lex.Tokens(s + " &")
			_, _, _ = lex.Tokens(s + "'")
		}
	}
}
