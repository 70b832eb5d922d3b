package proc

import (
	"heddle/api"
	"heddle/atom"
)

// Register gives a process a name.
func (t *Table) Register(name string, p api.Term) error {
	it, err := t.acting(p)
	if err != nil {
		return err
	}
	if name == "" || name == "undefined" || !atom.Valid(name) {
		return refuse(api.ErrArg)
	}
	if t.names[name] != nil || it.name != "" {
		return refuse(api.ErrNamed)
	}
	t.names[name] = it
	it.name = name
	return nil
}

// Unregister takes a name away from who has it.
func (t *Table) Unregister(name string) error {
	if !t.made() {
		return refuse(api.ErrZero)
	}
	it := t.names[name]
	if it == nil {
		return refuse(api.ErrNamed)
	}
	it.name = ""
	t.names.drop(name)
	return nil
}

// Whereis is who has a name.
func (t *Table) Whereis(name string) (api.Term, bool) {
	if !t.made() || t.names[name] == nil {
		return api.Term{}, false
	}
	return t.pid(t.names[name].id), true
}

// Name is which one a process has.
func (t *Table) Name(p api.Term) (string, bool) {
	it := t.find(p)
	if it == nil {
		return "", false
	}
	return it.name, it.name != ""
}
