package clone_test

import (
	"testing"

	"hustings/api"
	"hustings/clone"
)

func TestVerdict(t *testing.T) {
	set := api.Set{Name: "\x00", Type: 1, Class: 2, TTL: 3, Data: []string{"a", "b"}}
	v := api.Verdict{Code: 3, Sets: []api.Set{set, {}}, Soa: []api.Set{set}}
	c := clone.Verdict(v)
	if c.Code != 3 || len(c.Sets) != 2 || len(c.Soa) != 1 {
		t.Error(c)
	}
	for _, s := range []api.Set{c.Sets[0], c.Soa[0]} {
		if s.Name != "\x00" || s.Type != 1 || s.Class != 2 || s.TTL != 3 || len(s.Data) != 2 || s.Data[0] != "a" || s.Data[1] != "b" {
			t.Error(s)
		}
		s.Data[0] = "x"
	}
	c.Sets[0].Name, c.Soa[0].Name = "x", "x"
	if set.Data[0] != "a" || v.Sets[0].Name != "\x00" || v.Soa[0].Name != "\x00" {
		t.Error("shared")
	}
}
