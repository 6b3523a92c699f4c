package machine

import "leaks/api"

// low keeps of a number what a word has room for.
const low = api.Values - 1

// Apply carries out an operation on two words.
func Apply(op, a, b int) int {
	switch op {
	case api.Add:
		return (a + b) & low
	case api.Sub:
		return (a - b) & low
	case api.Mul:
		return (a * b) & low
	case api.And:
		return a & b
	case api.Or:
		return a | b
	case api.Xor:
		return a ^ b
	case api.Shl:
		return a << (b & low) & low
	case api.Shr:
		return a >> (b & low)
	case api.Less:
		return truth(a < b)
	case api.Same:
		return truth(a == b)
	}
	return a
}

func truth(b bool) int {
	if b {
		return 1
	}
	return 0
}
