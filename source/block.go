package source

import "leaks/api"

// mark is the kind of an else or end: lines of a body that take no step, so that link leaves them out.
const mark = 6

func (r *reader) takeBranch(words []string, kind int) bool {
	if len(words) != 2 || r.depth >= api.MaxDepth {
		return false
	}
	condition, isAtom := r.atom(words[1])
	if !isAtom {
		return false
	}
	head := len(r.body)
	if !r.add(Statement{Kind: kind, A: condition}) {
		return false
	}
	r.open[r.depth] = block{head: head}
	r.depth++
	return true
}

func (r *reader) takeElse(words []string) bool {
	if len(words) != 1 || r.depth == 0 {
		return false
	}
	inner := r.open[r.depth-1]
	if r.body[inner.head].Kind != If || inner.elseAt != 0 {
		return false
	}
	r.open[r.depth-1].elseAt = len(r.body)
	r.body[inner.head].Else = len(r.body) + 1
	r.body = append(r.body, Statement{Kind: mark})
	return true
}

func (r *reader) takeEnd(words []string) bool {
	if len(words) != 1 || r.depth == 0 {
		return false
	}
	r.depth--
	inner := r.open[r.depth]
	behind := len(r.body) + 1
	next := behind
	if r.body[inner.head].Kind == While {
		next = inner.head
	}
	if inner.elseAt != 0 {
		r.body[inner.elseAt].Next = behind
	} else {
		r.body[inner.head].Else = behind
	}
	r.body = append(r.body, Statement{Kind: mark, Next: next})
	return true
}

// link gives the statements without the marks, with Next and Else as places among them.
func (r *reader) link() []Statement {
	var code []Statement
	for _, s := range r.body {
		if s.Kind == mark {
			continue
		}
		s.Next = r.settle(s.Next)
		if s.Kind == If || s.Kind == While {
			s.Else = r.settle(s.Else)
		}
		code = append(code, s)
	}
	return code
}

// settle gives the place among the statements of the first one that is carried out from a place of the body on. Marks lead on to later lines or to a while, so that fewer than all lines are passed.
func (r *reader) settle(at int) int {
	for range r.body {
		if at >= len(r.body) || r.body[at].Kind != mark {
			break
		}
		at = r.body[at].Next
	}
	ahead := 0
	for i := 0; i < at && i < len(r.body); i++ {
		if r.body[i].Kind != mark {
			ahead++
		}
	}
	return ahead
}
