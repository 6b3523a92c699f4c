// Package leaks: does what a program tells hang on its secrets? See DOC.md.
package leaks

import (
	"leaks/api"
	"leaks/clauses"
	"leaks/diagram"
	"leaks/machine"
	"leaks/pairs"
	"leaks/proof"
	"leaks/source"
)

// Run tells what the first k steps of a program tell (P4).
func Run(s string, in []int, k int) []int {
	if !within(k, api.MaxK) {
		return nil
	}
	p, wrong := source.Read(s)
	if wrong != 0 || len(in) != len(p.Secret) || !areWords(in) {
		return nil
	}
	return machine.Tell(p, in, k)
}

// Check tells whether what k steps of a program tell hangs on its secrets (P5 to P10).
func Check(s string, k int, l api.Limits) (int, api.Report) {
	if !within(k, api.MaxK) || !within(l.Nodes, api.MaxLimit) || !within(l.Conflicts, api.MaxLimit) {
		return api.Reject, api.Report{}
	}
	p, wrong := source.Read(s)
	if wrong != 0 {
		return api.Reject, api.Report{Line: wrong}
	}
	d, fits := diagram.Of(p, k, l.Nodes)
	if !fits {
		return api.Unknown, api.Report{}
	}
	f := clauses.Write(p, d)
	r := api.Report{Vars: f.Vars, Formula: f.Text, Nodes: d.Decisions()}
	pair, found := pairs.Find(p, k)
	if found {
		r.First = pair.First
		r.Second = pair.Second
		r.At = pair.At
		return api.Insecure, r
	}
	none, fits := proof.Write(f, l.Conflicts)
	if !fits {
		return api.Unknown, api.Report{}
	}
	r.Proof = none.Text
	r.Conflicts = none.Lines
	return api.Secure, r
}

func within(n, most int) bool {
	return n >= 0 && n <= most
}

func areWords(in []int) bool {
	for _, value := range in {
		if !within(value, api.Values-1) {
			return false
		}
	}
	return true
}
