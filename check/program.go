package check

import "heddle/api"

// builtInModule is the module that all built-ins are of; no program has one of that name.
const builtInModule = "erlang"

// function is what tells the functions of a module apart.
type function struct {
	name  string
	arity int64
}

// checker goes over a program, and keeps what it gets to know of its nodes. It panics at the first flaw.
type checker struct {
	nodes     []api.Node
	seen      []api.Seen
	bifs      []api.Bif
	builtIns  map[function]int // their places in bifs
	functions map[function]int // of the module at hand: the numbers of their nodes
	scope     scope            // of the clause at hand
}

func newChecker(l []api.Node) *checker {
	c := &checker{nodes: l, seen: make([]api.Seen, len(l)), bifs: api.Bifs(), builtIns: map[function]int{}}
	for place, bif := range c.bifs {
		c.builtIns[function{bif.Name, int64(bif.Arity)}] = place
	}
	return c
}

// must goes on only where a rule holds; else node i breaks it.
func (c *checker) must(holds bool, i int, code api.Errno) {
	if !holds {
		panic(flaw{c.nodes[i].At, code})
	}
}

// program: the names of all modules come ahead of what is in them.
func (c *checker) program(root int) {
	modules := c.nodes[root].Kids
	numbers := map[string]int{}
	for _, i := range modules {
		name := c.nodes[i].Text
		_, taken := numbers[name]
		c.must(name != builtInModule && !taken, i, api.ErrModule)
		numbers[name] = i
	}
	for _, i := range modules {
		c.module(i)
	}
}

func (c *checker) module(i int) {
	forms := c.nodes[i].Kids
	c.functions = c.functionsOf(forms)
	for _, form := range forms {
		switch c.nodes[form].Kind {
		case api.NExport:
			_, there := c.functions[c.nameOf(form)]
			c.must(there, form, api.ErrExport)
		case api.NFunction:
			c.function(form)
		}
	}
}

// nameOf tells which function an export or a function's node is of.
func (c *checker) nameOf(form int) function {
	return function{c.nodes[form].Text, c.nodes[form].Int}
}

// functionsOf tells all functions of a module, for they may be called and exported ahead of where they stand. Of two of one name and arity the first one counts.
func (c *checker) functionsOf(forms []int) map[function]int {
	functions := map[function]int{}
	for _, form := range forms {
		name := c.nameOf(form)
		_, ahead := functions[name]
		if c.nodes[form].Kind == api.NFunction && !ahead {
			functions[name] = form
		}
	}
	return functions
}

func (c *checker) function(i int) {
	name := c.nameOf(i)
	c.must(c.functions[name] == i, i, api.ErrTwice)
	c.must(name.arity <= api.MaxArgs, i, api.ErrArity)
	for _, clause := range c.nodes[i].Kids {
		c.must(c.nameOfClause(clause) == name, clause, api.ErrClause)
		c.scope = newScope()
		c.walk(clause)
		slots := len(c.scope.slots)
		c.seen[clause].Slot = slots
		c.seen[i].Slot = max(c.seen[i].Slot, slots)
	}
}

func (c *checker) nameOfClause(i int) function {
	arguments := c.nodes[c.nodes[i].Kids[0]].Kids
	return function{c.nodes[i].Text, int64(len(arguments))}
}

// calledBy tells what a call is of; nothing, if it is of a function that is not there.
func (c *checker) calledBy(n api.Node) api.Seen {
	if n.Mod != "" && n.Mod != builtInModule {
		return api.Seen{Role: api.RRemote}
	}
	name := function{n.Text, int64(len(n.Kids))}
	if i, there := c.functions[name]; there && n.Mod == "" {
		return api.Seen{Role: api.RLocal, Slot: i}
	}
	if place, there := c.builtIns[name]; there {
		return api.Seen{Role: api.RBif, Slot: place}
	}
	return api.Seen{}
}
