package link

// process is what is kept of one that lives.
type process struct {
	self     pid
	links    map[pid]none
	monitors map[ref]monitor
	watchers map[watch]whom          // as what it is watched
	unlinks  map[pid]map[uint32]none // the numbers that are not confirmed
}

// monitor is whom it watches.
type monitor struct {
	whom    whom
	watched pid // the process, if that is one of this node
}

func newProcess(self pid) *process {
	return &process{self: self, links: map[pid]none{}, monitors: map[ref]monitor{}, watchers: map[watch]whom{}, unlinks: map[pid]map[uint32]none{}}
}

func (it *process) isLinked(q pid) bool {
	_, linked := it.links[q]
	return linked
}

// unlinked keeps an unlink till it is confirmed.
func (it *process) unlinked(q pid, id uint32) {
	if it.unlinks[q] == nil {
		it.unlinks[q] = map[uint32]none{}
	}
	it.unlinks[q][id] = none{}
}

func (it *process) confirmed(q pid, id uint32) {
	delete(it.unlinks[q], id)
	if len(it.unlinks[q]) == 0 {
		delete(it.unlinks, q)
	}
}

// heeds tells whether what another node says of a link counts: behind an unlink that is not confirmed it may be of the link that has ended.
func (it *process) heeds(q pid) bool { return len(it.unlinks[q]) == 0 }

// halves is how much there is with a node.
func (it *process) halves(node string) int {
	n := 0
	for q := range it.links {
		n += count(q.node == node)
	}
	for _, m := range it.monitors {
		n += count(m.whom.home() == node)
	}
	for w := range it.watchers {
		n += count(w.who.node == node)
	}
	for q, ids := range it.unlinks {
		n += len(ids) * count(q.node == node)
	}
	return n
}

func count(yes bool) int {
	if yes {
		return 1
	}
	return 0
}
