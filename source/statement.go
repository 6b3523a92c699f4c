package source

import "leaks/api"

// add puts a statement into the body, unless it is one too many.
func (r *reader) add(s Statement) bool {
	if r.statements >= api.MaxIns {
		return false
	}
	r.statements++
	s.Next = len(r.body) + 1
	r.body = append(r.body, s)
	return true
}

func (r *reader) takeAssign(words []string) bool {
	if len(words) != 3 && len(words) != 5 || words[1] != "=" {
		return false
	}
	target := r.find(words[0])
	a, isAtom := r.atom(words[2])
	if target.role != slot || !isAtom {
		return false
	}
	if len(words) == 3 {
		return r.add(Statement{Kind: Assign, Op: api.Move, Slot: target.place, A: a})
	}
	op := operation(words[3])
	b, isAtom := r.atom(words[4])
	if op < 0 || !isAtom {
		return false
	}
	return r.add(Statement{Kind: Assign, Op: op, Slot: target.place, A: a, B: b})
}

func (r *reader) takeLoad(words []string) bool {
	if len(words) != 4 {
		return false
	}
	target := r.find(words[1])
	from := r.find(words[2])
	index, isAtom := r.atom(words[3])
	if target.role != slot || from.role != array || !isAtom {
		return false
	}
	return r.add(Statement{Kind: Load, Slot: target.place, Array: from.place, A: index})
}

func (r *reader) takeStore(words []string) bool {
	if len(words) != 4 {
		return false
	}
	to := r.find(words[1])
	index, isIndex := r.atom(words[2])
	value, isValue := r.atom(words[3])
	if to.role != array || !isIndex || !isValue {
		return false
	}
	return r.add(Statement{Kind: Store, Array: to.place, A: index, B: value})
}

func (r *reader) takeOut(words []string) bool {
	if len(words) != 2 {
		return false
	}
	a, isAtom := r.atom(words[1])
	if !isAtom {
		return false
	}
	return r.add(Statement{Kind: Out, A: a})
}
