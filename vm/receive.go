package vm

import "heddle/api"

func (r *run) peek(f *frame, in api.Insn) {
	message, there := r.box.Peek()
	if !there {
		f.at = in.A
		return
	}
	f.push(&message)
}

// next: behind the last message the cursor stays where it is.
func (r *run) next(f *frame, in api.Insn) {
	_ = r.box.Next()
	f.at = in.A
}

// takeOut ends a receive, also where there is nothing to take: then as a time that is over does.
func (r *run) takeOut(*frame, api.Insn) {
	if _, err := r.box.Take(); err != nil {
		_, _ = r.box.Wait(r.now, api.Term{Kind: api.KInt})
	}
}

func (r *run) waitFor(f *frame, _ api.Insn) {
	waits, err := r.box.Wait(r.now, *f.pop())
	switch {
	case err != nil:
		fail("timeout_value")
	case waits:
		r.wait()
	}
}
