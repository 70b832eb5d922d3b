package link_test

import "testing"

// The chapter's examples.
func TestExamples(t *testing.T) {
	play(t, open(t, "a1"), `
		link a1 b7 -> b: link a1 b7
		take b exit b7 a1 noproc -> exit a1 b7 noproc
	`)
	play(t, open(t, "a1"), `
		link a1 b7 -> b: link a1 b7
		unlink a1 b7 -> b: unlink 1 a1 b7
		take b exit b7 a1 boom ->
		take b ack 1 b7 a1 ->
		link a1 b7 -> b: link a1 b7
	`)
	play(t, open(t, "a1"), `
		monitor a1 a#1 b7 -> b: monitor a1 b7 a#1
		down b -> down a1 a#1 b7 noconnection
		down b ->
	`)
}
