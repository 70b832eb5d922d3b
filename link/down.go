package link

import (
	"maps"

	"heddle/api"
)

// Down says that the connection to a node has ended.
func (t *Table) Down(node string) ([]api.Effect, error) {
	switch {
	case !t.made():
		return nil, refuse(api.ErrZero)
	case !t.isOther(node):
		return nil, refuse(api.ErrArg)
	}
	var all []api.Effect
	order := sorted(t.living, pid.compare)
	for _, p := range order {
		all = append(all, t.living[p].cutLinks(node)...)
	}
	for _, p := range order {
		all = append(all, t.living[p].cutMonitors(node)...)
		t.living[p].forget(node)
	}
	return all, nil
}

// cutLinks ends all links with a node.
func (it *process) cutLinks(node string) []api.Effect {
	var all []api.Effect
	for _, q := range sorted(it.links, pid.compare) {
		if q.node == node {
			delete(it.links, q)
			all = append(all, exit(it.self, q, noconnection()))
		}
	}
	return all
}

// cutMonitors ends all monitors of a node.
func (it *process) cutMonitors(node string) []api.Effect {
	var all []api.Effect
	for _, by := range sorted(it.monitors, ref.compare) {
		if w := it.monitors[by].whom; w.home() == node {
			delete(it.monitors, by)
			all = append(all, down(it.self, by, w, noconnection()))
		}
	}
	return all
}

// forget drops what is left of a node, of which nobody is told.
func (it *process) forget(node string) {
	maps.DeleteFunc(it.watchers, func(w watch, _ whom) bool { return w.who.node == node })
	maps.DeleteFunc(it.unlinks, func(q pid, _ map[uint32]none) bool { return q.node == node })
}
