package conn_test

import "testing"

// The chapter's examples.

func TestExample1(t *testing.T) {
	played(t, `
		send b@h body 0 -> open b@h
		opened b@h 1 0 -> send 1 name:m@h
		conn b@h -> trying 1 1 0
	`)
}

func TestExample2(t *testing.T) {
	played(t, `
		connect b@h 0 -> open b@h
		opened b@h 1 0 -> send 1 name:m@h
		come 1 status:nok 0 -> close 1
		conn b@h -> awaited 0 0 0
		tick 240 -> fail b@h
	`)
}

func TestExample3(t *testing.T) {
	for _, way := range []string{toUp, toOwn} {
		played(t, way+`
			tick 60 -> send 1 tick
			tick 240 -> close 1; down b@h
		`)
	}
}
