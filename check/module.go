package check

import "wireloom/api"

// module is a module of a source file, with what is looked up in it by name.
type module struct {
	api.Module
	index    int
	named    map[string]*module // the first module of the file with each name
	listed   map[string]int     // how many times each parameter is listed
	declared map[string]int     // the first item that declares each name
	ports    map[string]int     // 1 for the name of each input and output port
	taken    map[string]bool    // the names that the module takes from
	consumed map[string]int     // how many times ports and channels of each name are consumed
	filled   map[string]int     // how many times ports and channels of each name are filled
	needed   graph              // from each wire to the items that the names in its expression refer to
}

func readModules(f api.File) []*module {
	named := map[string]*module{}
	var modules []*module
	for k, m := range f.Modules {
		read := &module{Module: m, index: k, named: named}
		read.findNames()
		read.findNeeds()
		modules = append(modules, read)
		if named[m.Name] == nil {
			named[m.Name] = read
		}
	}
	for _, m := range modules {
		m.countEnds()
	}
	return modules
}

// instanceGraph returns a graph with the modules as nodes, and an edge to the module of each instance.
func instanceGraph(modules []*module) graph {
	g := make(graph, len(modules))
	for k, m := range modules {
		for _, item := range m.Items {
			if of := m.instantiated(item); of != nil {
				g[k] = append(g[k], of.index)
			}
		}
	}
	return g
}

func (m *module) findNames() {
	m.listed, m.declared, m.ports = map[string]int{}, map[string]int{}, map[string]int{}
	for _, p := range m.Params {
		m.listed[p]++
	}
	for i, item := range m.Items {
		if !declares(item) {
			continue
		}
		if _, earlier := m.declared[item.Name]; !earlier {
			m.declared[item.Name] = i
		}
		if item.Kind == api.IIn || item.Kind == api.IOut {
			m.ports[item.Name] = 1
		}
	}
}

func declares(item api.Item) bool {
	switch item.Kind {
	case api.IIn, api.IOut, api.IChan, api.IReg, api.IWire, api.IMem, api.IInst:
		return true
	}
	return false
}

func (m *module) findNeeds() {
	m.needed = make(graph, len(m.Items))
	for i, item := range m.Items {
		if item.Kind != api.IWire {
			continue
		}
		for e := range usedExprs(item) {
			if at, declared := m.declared[e.Name]; declared && (e.Op == api.ERef || e.Op == api.EMem) {
				m.needed[i] = append(m.needed[i], at)
			}
		}
	}
}

// countEnds looks up ports in other modules, so all of them have to know their names.
func (m *module) countEnds() {
	m.taken, m.consumed, m.filled = map[string]bool{}, map[string]int{}, map[string]int{}
	for _, item := range m.Items {
		switch item.Kind {
		case api.ITake:
			m.taken[item.Name] = true
			m.consumed[item.Name]++
		case api.IPut:
			m.filled[item.Name]++
		case api.IInst:
			m.countBindings(item)
		}
	}
}

func (m *module) countBindings(instance api.Item) {
	of := m.instantiated(instance)
	if of == nil {
		return
	}
	for _, b := range instance.Ports {
		switch of.kind(b.Port) {
		case api.IIn:
			m.consumed[b.Chan]++
		case api.IOut:
			m.filled[b.Chan]++
		}
	}
}

// instantiated returns the module that an item is an instance of, or nil if there is none.
func (m *module) instantiated(item api.Item) *module {
	if item.Kind != api.IInst {
		return nil
	}
	return m.named[item.Of]
}

// kind returns the kind of the item that a name refers to, or 0, which none of these has, if there is none.
func (m *module) kind(name string) int {
	at, declared := m.declared[name]
	if !declared {
		return 0
	}
	return m.Items[at].Kind
}
