package proc_test

import "testing"

// The chapter's examples.
func TestExamples(t *testing.T) {
	play(t, open(t, ""), `
		spawn spin -> #1
		spawn spin -> #2
		run 10 0 -> #1 yield
		queue -> #2 #1
		exit #1 #2 boom link -> ended
		ended -> #1 boom
		exit #1 #2 boom link -> !400
	`)
	play(t, open(t, "wait"), `
		trap #1 yes -> false
		exit #1 #2 kill link -> message
		exit #1 #2 kill nolink -> ended
		ended -> #1 killed
	`)
	play(t, open(t, "wait 10; wait 5"), `
		run 10 0 -> #1 wait 10
		run 10 0 -> #2 wait 5
		wake 10 -> 2
		queue -> #2 #1
	`)
}
