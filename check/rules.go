package check

import (
	"maps"

	"wireloom/api"
)

// isMisnamed reports the problem 1 at the head.
func (m *module) isMisnamed() bool {
	if !Name(m.Name) || !Name(m.Clock) || m.named[m.Name] != m {
		return true
	}
	for p, times := range m.listed {
		if !Name(p) || times > 1 {
			return true
		}
	}
	return false
}

// isMisdeclared reports the problem 1 at an item.
func (m *module) isMisdeclared(i int) bool {
	item := m.Items[i]
	return declares(item) && (!Name(item.Name) || m.declared[item.Name] != i || m.listed[item.Name] > 0)
}

// isMalformed reports the problem 2.
func isMalformed(item api.Item) bool {
	if item.Kind < api.IIn || item.Kind > api.IInst {
		return true
	}
	for e := range usedExprs(item) {
		if e.Op < api.EConst || e.Op > api.EMem || len(e.Args) != arguments[e.Op] {
			return true
		}
	}
	return hasRule(item) && (item.Rule.Kind < api.RInit || item.Rule.Kind > api.RAdd)
}

func hasRule(item api.Item) bool {
	return item.Kind == api.IReg || item.Kind == api.IMem
}

// isDangling reports the problem 3.
func (m *module) isDangling(item api.Item) bool {
	for _, n := range usedNums(item) {
		if n.Param != "" && m.listed[n.Param] == 0 {
			return true
		}
	}
	for e := range usedExprs(item) {
		if !m.isFound(e) {
			return true
		}
	}
	switch {
	case item.Kind == api.ITake:
		return !isSource(m.kind(item.Name))
	case item.Kind == api.IPut:
		return !isSink(m.kind(item.Name))
	case item.Kind == api.IInst:
		return m.isUnbound(item)
	}
	return hasRule(item) && (item.Rule.Kind == api.RCopy || item.Rule.Kind == api.RAdd) && !Name(item.Rule.From)
}

// isFound reports whether the name of an expression refers to what its operator needs, if it needs any.
func (m *module) isFound(e api.Expr) bool {
	kind := m.kind(e.Name)
	switch e.Op {
	case api.ERef:
		return kind == api.IReg || kind == api.IWire || isSource(kind) && m.taken[e.Name]
	case api.EMem:
		return kind == api.IMem
	}
	return true
}

// isUnbound reports whether there is no module for an instance, or nothing that one of its ports could be bound to.
func (m *module) isUnbound(instance api.Item) bool {
	for _, b := range instance.Ports {
		if kind := m.kind(b.Chan); !isSource(kind) && !isSink(kind) {
			return true
		}
	}
	return m.instantiated(instance) == nil
}

// isSource reports whether a module can take words from items of a kind.
func isSource(kind int) bool {
	return kind == api.IIn || kind == api.IChan
}

// isSink reports whether a module can put words into items of a kind.
func isSink(kind int) bool {
	return kind == api.IOut || kind == api.IChan
}

// isCircular reports the problem 4.
func (m *module) isCircular(i int) bool {
	item := m.Items[i]
	return item.Kind == api.IWire && m.needed.leads(i, m.declared[item.Name])
}

// isMisconnected reports the problem 5.
func (m *module) isMisconnected(item api.Item) bool {
	consumed, filled := m.consumed[item.Name], m.filled[item.Name]
	switch item.Kind {
	case api.IIn:
		return consumed != 1 || filled != 0
	case api.IOut:
		return consumed != 0 || filled != 1
	case api.IChan:
		return consumed != 1 || filled != 1
	}
	return false
}

// isMisbound reports the problem 6.
func (m *module) isMisbound(item api.Item) bool {
	of := m.instantiated(item)
	if of == nil {
		return false
	}
	bound := map[string]int{}
	for _, b := range item.Ports {
		bound[b.Port]++
	}
	return len(item.Args) != len(of.Params) || !maps.Equal(bound, of.ports)
}

// isPremature reports the problem 8: whether a word is taken would depend on a word that is taken.
func (m *module) isPremature(item api.Item) bool {
	if item.Kind != api.ITake {
		return false
	}
	var needed []int
	for e := range usedExprs(item) {
		if at, declared := m.declared[e.Name]; declared && e.Op == api.ERef {
			needed = append(needed, at)
		}
	}
	for _, at := range m.needed.reach(needed) {
		if isSource(m.Items[at].Kind) {
			return true
		}
	}
	return false
}
