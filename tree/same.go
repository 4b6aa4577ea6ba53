package tree

import (
	"slices"

	"lazarus/api"
)

// Same tells whether two scripts are one.
func Same(a, b api.Prog) bool {
	return a.Root == b.Root && slices.EqualFunc(a.Nodes, b.Nodes, sameNode)
}

// sameNode tells whether two nodes are one.
func sameNode(a, b api.Node) bool {
	return a.Op == b.Op && a.Name == b.Name &&
		slices.Equal(a.Kids, b.Kids) &&
		sameWords(a.Words, b.Words) &&
		slices.EqualFunc(a.Pats, b.Pats, sameWords) &&
		slices.EqualFunc(a.Assigns, b.Assigns, sameAssign) &&
		slices.EqualFunc(a.Redirs, b.Redirs, sameRedir)
}

// sameWords tells whether two rows of words are one.
func sameWords(a, b []api.Word) bool { return slices.EqualFunc(a, b, sameWord) }

// sameWord tells whether two words are one.
func sameWord(a, b api.Word) bool { return slices.EqualFunc(a.Parts, b.Parts, samePart) }

// samePart tells whether two parts are one.
func samePart(a, b api.Part) bool {
	return a.Kind == b.Kind && a.Text == b.Text && a.Op == b.Op && a.Quoted == b.Quoted &&
		slices.EqualFunc(a.Word, b.Word, samePart)
}

// sameAssign tells whether two assigns are one.
func sameAssign(a, b api.Assign) bool { return a.Name == b.Name && sameWord(a.To, b.To) }

// sameRedir tells whether two redirs are one.
func sameRedir(a, b api.Redir) bool { return a.Op == b.Op && sameWord(a.To, b.To) }
