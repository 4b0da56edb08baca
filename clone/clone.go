// Package clone copies what would otherwise be shared between arguments, results and what is kept.
package clone

import (
	"slices"

	"hustings/api"
)

// Set returns a copy of a set that shares no list with it.
func Set(s api.Set) api.Set {
	s.Data = slices.Clone(s.Data)
	return s
}

// Sets returns a copy of sets that shares no list with them.
func Sets(l []api.Set) []api.Set {
	var c []api.Set
	for _, s := range l {
		c = append(c, Set(s))
	}
	return c
}

// Verdict returns a copy of a verdict that shares no list with it.
func Verdict(v api.Verdict) api.Verdict {
	v.Sets, v.Soa = Sets(v.Sets), Sets(v.Soa)
	return v
}
