package conn_test

import (
	"fmt"
	"slices"
	"strings"
	"testing"

	"heddle/api"
	"heddle/conn"
)

// P21.8: Up, Conn and Streams behind every call, in whichever order nodes come up and streams come.
func TestUpConnStreams(t *testing.T) {
	played(t, `
		up ->
		streams ->
		conn b@h -> none 0 0 0
		connect z@h 0 -> open z@h
		up ->
		streams ->
		conn z@h -> wanted 0 0 0
		send z@h x 0 ->
		conn z@h -> wanted 0 1 0
		opened z@h 9 0 -> send 9 name:m@h
		streams -> 9
		conn z@h -> trying 9 1 0
		accept 4 0 ->
		streams -> 4 9
		conn z@h -> trying 9 1 0
		come 9 status:ok,challenge:z@h:3 0 -> send 9 reply:3:#1
		conn z@h -> trying 9 1 0
		come 9 ack:#1 0 -> up z@h; send 9 body:x
		up -> z@h
		streams -> 4 9
		conn z@h -> up 9 0 1 z@h
		come 4 name:b@h 0
		up -> z@h
		conn b@h -> taken 4 0 0
		come 4 reply:#2:3 0 -> send 4 ack:3; up b@h
		up -> b@h z@h
		conn b@h -> up 4 0 1 b@h
		tick 60 -> send 4 tick; send 9 tick
		up -> b@h z@h
		accept 100 0 ->
		accept 20 0 ->
		come 20 name:n@h 0
		streams -> 4 9 20 100
		come 100 name:n@h 0 -> send 100 status:ok; send 100 challenge:m@h:#3; close 20
		streams -> 4 9 100
		conn n@h -> taken 100 0 0
		closed 4 -> down b@h
		up -> z@h
		streams -> 9 100
		conn b@h -> none 0 0 1
		come 100 reply:#3:3 0 -> send 100 ack:3; up n@h
		up -> n@h z@h
		break z@h -> close 9; down z@h
		up -> n@h
		streams -> 100
		conn z@h -> none 0 0 1
		tick 300 -> close 100; down n@h
		up ->
		streams ->
		conn n@h -> none 0 0 1
		connect a@h 0 -> open a@h
		refused a@h -> fail a@h
		conn a@h -> none 0 0 0
	`)
}

// P21.8: of a name that is none, of this node's own, and of one that nobody has named, nothing is known.
func TestConnOfNoOther(t *testing.T) {
	for state, way := range ways() {
		x := played(t, way)
		for _, name := range append(noNames, "a@h", "b@hh", "B@h") {
			if c := x.Conn(name); c != (api.Conn{}) {
				t.Errorf("%s: Conn(%.20q) = %+v", state, name, c)
			}
		}
	}
}

// P21.8: many nodes and streams are told in their order, each time, whatever the order in which they came.
func TestOrderOfMany(t *testing.T) {
	x := open(t)
	var nodes []string
	var streams []int
	for i := range 200 {
		name, stream := fmt.Sprintf("n%d@h", i*7919%200), i*7919%1000
		done(t, "Accept", x.Accept(stream, 0))
		haps, err := x.Come(stream, message(api.Shake{Kind: api.HName, Flags: api.FlagsNeeded, Creation: 1, Name: name}), 0)
		done(t, "Come", err)
		nodes, streams = append(nodes, name), append(streams, stream)
		answer := digestTo(t, haps[1].Bytes)
		if _, err := x.Come(stream, answer, 0); err != nil {
			t.Fatal(err)
		}
		if i%50 == 49 {
			slices.Sort(streams)
			slices.Sort(nodes)
			for range 5 {
				if !slices.Equal(x.Up(), nodes) || !slices.Equal(x.Streams(), streams) {
					t.Fatalf("%v, %v", x.Up(), x.Streams())
				}
			}
		}
	}
}

// Asking changes nothing, and tells the same again.
func TestAskingChangesNothing(t *testing.T) {
	for _, s := range all() {
		x, y := played(t, s.way), played(t, s.way)
		first := look(x)
		for range 10 {
			if look(x) != first || look(y) != first {
				t.Fatalf("%s was %s", look(x), first)
			}
		}
		play(t, x, "break b@h -> "+s.closing())
		play(t, y, "break b@h -> "+s.closing())
		if look(x) != look(y) {
			t.Errorf("%s, %s", look(x), look(y))
		}
	}
}

// Nothing is known to be up of a table of which nothing but names was told.
func TestNothingUp(t *testing.T) {
	for name, way := range ways() {
		x := played(t, way)
		if up := strings.Join(x.Up(), " "); (up == "b@h") != (name == "up") || up != "" && name != "up" {
			t.Errorf("%s: %s", name, up)
		}
	}
	if (*conn.Table)(nil).Up() != nil {
		t.Error("of a table that is nil")
	}
}
