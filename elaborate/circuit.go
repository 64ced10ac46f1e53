package elaborate

import "wireloom/api"

// circuit returns the circuit of a design whose instances are consistent.
func (d *design) circuit() api.Circuit {
	var c api.Circuit
	for _, l := range d.chans {
		ch := api.Chan{Name: l.in.path + "." + l.item.Name, W: l.in.value(l.item.Width), From: -1, To: -1}
		if isChan(l.item) {
			ch.Cap = l.in.value(l.item.Depth)
		}
		c.Chans = append(c.Chans, ch)
	}
	for n, i := range d.procs {
		p := i.proc()
		for _, put := range p.Puts {
			c.Chans[put.Chan].From = n
		}
		for _, take := range p.Takes {
			c.Chans[take.Chan].To = n
		}
		c.Procs = append(c.Procs, p)
	}
	return c
}

// proc returns the process of an instance.
func (i *instance) proc() api.Proc {
	p := api.Proc{Name: i.path, Clock: i.Clock}
	t := &translator{i, api.MaxExpr}
	for _, item := range i.Items {
		switch item.Kind {
		case api.IReg:
			p.Regs = append(p.Regs, api.Reg{Name: item.Name, W: i.value(item.Width), Init: i.value(item.Init), Next: t.expr(item.A), Rule: item.Rule})
		case api.IMem:
			p.Mems = append(p.Mems, api.Mem{Name: item.Name, W: i.value(item.Width), Words: i.value(item.Depth), Enable: t.expr(item.A), Addr: t.expr(item.B), Data: t.expr(item.C), Rule: item.Rule})
		case api.ITake:
			p.Takes = append(p.Takes, api.Take{Chan: i.chans[item.Name], W: i.widthOf(item.Name), When: t.expr(item.A)})
		case api.IPut:
			p.Puts = append(p.Puts, api.Put{Chan: i.chans[item.Name], W: i.widthOf(item.Name), When: t.expr(item.A), Data: t.expr(item.B)})
		}
	}
	return p
}

// translator translates the expressions of a process.
type translator struct {
	*instance
	left int // how many nodes the process may still have
}

// expr returns the translation of an expression; it gives up if the process has too many nodes.
func (t *translator) expr(e api.Expr) api.Expr {
	item := t.named(e.Name)
	if e.Op == api.ERef && item.Kind == api.IWire {
		return t.expr(item.A)
	}
	require(t.left > 0, api.ErrBig)
	t.left--
	out := api.Expr{Op: e.Op}
	out.K.N, out.W.N = t.numbers(e)
	switch {
	case e.Op == api.EMem:
		out.Op, out.K.N = api.ERead, t.places[e.Name]
	case e.Op == api.ERef && item.Kind == api.IReg:
		out.Op, out.K.N = api.EReg, t.places[e.Name]
	case e.Op == api.ERef:
		out.Op, out.K.N = api.EData, t.places[e.Name]
	}
	for _, arg := range e.Args {
		out.Args = append(out.Args, t.expr(arg))
	}
	return out
}
