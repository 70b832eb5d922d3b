package shake

import (
	"testing"

	"heddle/api"
)

// A side that is up or dead keeps nothing of what it was made of: no cookie, no challenge.
func TestSideForgets(t *testing.T) {
	me := api.Peer{Name: "n@h", Flags: api.FlagsNeeded, Creation: 1}
	other := api.Peer{Name: "m@h", Flags: api.FlagsNeeded, Creation: 2}
	a, hello, _ := Begin(me, "m@h", "c", 5)
	z, _ := Wait(other, "c", 6)
	z.Take(hello)
	told, _ := z.Answer("ok_simultaneous")
	a.Take(told[0])
	reply, _ := a.Take(told[1])
	ack, _ := z.Take(reply[0])
	a.Take(ack[0])
	dead, _, _ := Begin(me, "m@h", "c", 5)
	dead.Take([]byte("snok"))
	for _, s := range []*Side{a, z, dead} {
		if *s != (Side{self: s, known: s.known}) {
			t.Errorf("%+v", *s)
		}
	}
	if a.known != (api.Shaking{State: api.ShakeUp, Peer: other, Simult: true}) || z.known != (api.Shaking{State: api.ShakeUp, Peer: me, Simult: true}) || dead.known != (api.Shaking{State: api.ShakeDead}) {
		t.Errorf("%+v, %+v, %+v", a.known, z.known, dead.known)
	}
}

// What is told of a kind stands in the order of the chapter's table; a name, if there is one, is last, as Read leans on it.
func TestNameIsLast(t *testing.T) {
	for k := api.HName; k <= api.HAck; k++ {
		form, known := shapeOf(k)
		for i, f := range form.fields {
			if !known || f == fieldName && i != len(form.fields)-1 || f == fieldStatus && len(form.fields) != 1 {
				t.Errorf("kind %d: %v", k, form.fields)
			}
		}
	}
}
