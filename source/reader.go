package source

import "leaks/api"

// What a letter is the name of.
const (
	nothing = 0
	slot    = 1
	array   = 2
)

// letter: place is the slot's or the array's number.
type letter struct {
	role, place int
}

// block: an if or while that is still open. head and elseAt are places in the reader's body; elseAt is 0 as long as there is no else, for the first line of a body is never one.
type block struct {
	head, elseAt int
}

// reader: what the lines so far have said. body has the marks else and end among the statements; until link, Next and Else of its statements are places in it.
type reader struct {
	program    Program
	letters    [26]letter
	body       []Statement
	statements int
	open       [api.MaxDepth]block
	depth      int
}

// take takes in the next line, or says that it cannot stand where it stands.
func (r *reader) take(words []string) bool {
	if len(words) == 0 {
		return false
	}
	switch words[0] {
	case "secret":
		return r.takeInput(words, true)
	case "public":
		return r.takeInput(words, false)
	case "var":
		return r.takeVar(words)
	case "array":
		return r.takeArray(words)
	case "load":
		return r.takeLoad(words)
	case "store":
		return r.takeStore(words)
	case "out":
		return r.takeOut(words)
	case "if":
		return r.takeBranch(words, If)
	case "while":
		return r.takeBranch(words, While)
	case "else":
		return r.takeElse(words)
	case "end":
		return r.takeEnd(words)
	}
	return r.takeAssign(words)
}

// find tells what a word is the name of.
func (r *reader) find(w string) letter {
	if !isName(w) {
		return letter{}
	}
	return r.letters[w[0]-'a']
}

// atom reads an atom, or says that a word is none.
func (r *reader) atom(w string) (Atom, bool) {
	n := number(w)
	if n >= 0 {
		return Atom{Value: n}, true
	}
	l := r.find(w)
	if l.role != slot {
		return Atom{}, false
	}
	return Atom{Named: true, Value: l.place}, true
}
