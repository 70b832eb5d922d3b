package compile

import (
	"slices"

	"heddle/api"
)

// receive makes the code of a receive. Its messages are gone through by the one loop that a program has: only CNext, which is counted, and CWait, which is not, go back.
func (f *function) receive(n api.Node, last bool) {
	e := &exit{last: last}
	clauses, after := f.partsOf(n)
	restore := f.wait(clauses, after)
	again := f.here()
	if len(clauses) > 0 {
		none := f.ahead(api.CPeek)
		f.store(f.spare(heldValue))
		f.clauses(clauses, f.holdValue, e, api.CTake)
		f.put(api.CNext, again)
		none()
	}
	f.load(f.spare(heldTime))
	f.put(api.CWait, again)
	restore()
	f.over(after, last)
	e.meet()
}

// partsOf tells a receive's clauses, and its NAfter's parts, if it has one.
func (f *function) partsOf(n api.Node) (clauses, after []int) {
	final := len(n.Kids) - 1
	if f.nodes[n.Kids[final]].Kind == api.NAfter {
		return n.Kids[:final], f.nodes[n.Kids[final]].Kids
	}
	return n.Kids, nil
}

// wait makes the code that sets the time, and tells what makes the code that stands where it is over. The names that the time binds are read behind it; but where clauses bind them as well, a message that fits in part has changed them meanwhile, so that they are held and restored.
func (f *function) wait(clauses, after []int) (restore func()) {
	if len(after) == 0 {
		f.constantly(symbol("infinity"))
		f.store(f.spare(heldTime))
		return func() {}
	}
	names := f.boundByBoth(clauses, after[0])
	for _, slot := range names {
		// Where the time binds a name on some ways alone, nobody reads it, but it is held: so it is set on all ways.
		f.constantly(literal{kind: api.KNil})
		f.store(f.name(slot))
	}
	f.evaluate(after[0], false)
	f.store(f.spare(heldTime))
	for n, slot := range names {
		f.load(f.name(slot))
		f.store(f.spare(heldByTime + n))
	}
	return func() {
		for n, slot := range names {
			f.load(f.spare(heldByTime + n))
			f.store(f.name(slot))
		}
	}
}

// over makes the code of what is done when the time is over.
func (f *function) over(after []int, last bool) {
	if len(after) > 0 {
		f.body(after[1], last)
		return
	}
	// Nobody comes here. But a CWait may not stand last, nor may it seem that a way leads behind the receive which binds no names.
	f.load(f.spare(heldTime))
	f.put(api.CRaise, classNumber("error"))
}

// boundByBoth are the slots that a time binds, and the patterns of clauses, too.
func (f *function) boundByBoth(clauses []int, time int) []int {
	var byClauses []int
	for _, i := range clauses {
		byClauses = f.bound(f.nodes[i].Kids[0], byClauses)
	}
	slices.Sort(byClauses)
	byTime := f.bound(time, nil)
	slices.Sort(byTime)
	return slices.DeleteFunc(slices.Compact(byTime), func(slot int) bool {
		_, both := slices.BinarySearch(byClauses, slot)
		return !both
	})
}

// bound puts the slots that are bound below a node behind others.
func (f *function) bound(i int, slots []int) []int {
	if f.seen[i].Role == api.RBind {
		slots = append(slots, f.seen[i].Slot)
	}
	for _, kid := range f.nodes[i].Kids {
		slots = f.bound(kid, slots)
	}
	return slots
}
