package elaborate

import (
	"slices"

	"wireloom/api"
)

// Width returns the width of an expression of a process.
func Width(p api.Proc, e api.Expr) (int, api.Errno) {
	w := widthsIn(p).of(e)
	if w == 0 {
		return 0, api.ErrCircuit
	}
	return w, api.OK
}

func widthsIn(p api.Proc) *widthFinder {
	return newWidthFinder(func(e api.Expr, args []int) int {
		if !isPlain(e) {
			return 0
		}
		var w int
		switch e.Op {
		case api.EReg:
			w = given(len(args) == 0, element(p.Regs, e.K.N).W)
		case api.EData:
			w = given(len(args) == 0, element(p.Takes, e.K.N).W)
		case api.ERead:
			w = given(len(args) == 1 && isWidth(args[0]), element(p.Mems, e.K.N).W)
		default:
			w = resultWidth(e.Op, args, e.K.N, e.W.N)
		}
		return given(isWidth(w), w)
	})
}

// isPlain reports whether nothing is in the fields that an expression of a process does not use.
func isPlain(e api.Expr) bool {
	switch e.Op {
	case api.EConst, api.ESlice:
		e.K.N, e.W.N = 0, 0
	case api.EExt:
		e.W.N = 0
	case api.EReg, api.ERead, api.EData:
		e.K.N = 0
	}
	return e.Name == "" && e.K == api.Num{} && e.W == api.Num{}
}

// element returns the element of a list with an index, or the zero value if there is none.
func element[T any](l []T, k int) T {
	if k < 0 || k >= len(l) {
		var none T
		return none
	}
	return l[k]
}

// ValidProc reports whether a process is valid.
func ValidProc(p api.Proc) bool {
	var exprs []api.Expr
	var names []string
	for _, r := range p.Regs {
		exprs, names = append(exprs, r.Next), append(names, r.Name)
	}
	for _, m := range p.Mems {
		exprs, names = append(exprs, m.Enable, m.Addr, m.Data), append(names, m.Name)
	}
	for _, t := range p.Takes {
		exprs = append(exprs, t.When)
	}
	for _, t := range p.Puts {
		exprs = append(exprs, t.When, t.Data)
	}
	// Expressions with few nodes have an end, and so what follows has one.
	return haveFewNodes(exprs) && areDistinct(names) && hasValidParts(p)
}

func hasValidParts(p api.Proc) bool {
	widths := widthsIn(p)
	for _, r := range p.Regs {
		if !isWidth(r.W) || !isValue(r.Init, r.W) || widths.of(r.Next) != r.W || !isRule(r.Rule) {
			return false
		}
	}
	for _, m := range p.Mems {
		if !isWidth(m.W) || !isSize(m.Words) || widths.of(m.Enable) != 1 || widths.of(m.Addr) == 0 || widths.of(m.Data) != m.W || !isRule(m.Rule) {
			return false
		}
	}
	for _, t := range p.Takes {
		if t.Chan < 0 || !isWidth(t.W) || widths.of(t.When) != 1 || hasData(t.When) {
			return false
		}
	}
	for _, t := range p.Puts {
		if t.Chan < 0 || !isWidth(t.W) || widths.of(t.When) != 1 || widths.of(t.Data) != t.W {
			return false
		}
	}
	return true
}

// haveFewNodes reports whether some expressions have no more nodes than a process may have.
func haveFewNodes(exprs []api.Expr) bool {
	nodes := 0
	left := [][]api.Expr{exprs}
	for len(left) > 0 {
		last := left[len(left)-1]
		left = left[:len(left)-1]
		nodes += len(last)
		if nodes > api.MaxExpr {
			return false
		}
		for _, e := range last {
			left = append(left, e.Args)
		}
	}
	return true
}

func areDistinct(names []string) bool {
	seen := map[string]bool{}
	for _, name := range names {
		seen[name] = true
	}
	return len(seen) == len(names)
}

func isRule(r api.Rule) bool {
	return r.Kind >= api.RInit && r.Kind <= api.RAdd
}

func hasData(e api.Expr) bool {
	return e.Op == api.EData || slices.ContainsFunc(e.Args, hasData)
}

// Valid reports whether a circuit is valid.
func Valid(c api.Circuit) bool {
	var procs, chans []string
	for _, p := range c.Procs {
		procs = append(procs, p.Name)
	}
	for _, ch := range c.Chans {
		chans = append(chans, ch.Name)
	}
	if len(procs) > api.MaxProcs || len(chans) > api.MaxChans || !areDistinct(procs) || !areDistinct(chans) {
		return false
	}
	for _, p := range c.Procs {
		if !ValidProc(p) {
			return false
		}
	}
	for _, ch := range c.Chans {
		if !hasValidCap(ch) {
			return false
		}
	}
	return areConnected(c)
}

// hasValidCap reports whether a channel leads to or from a process, and has the room for words that it should have then.
func hasValidCap(ch api.Chan) bool {
	if ch.From == -1 || ch.To == -1 {
		return ch.From != ch.To && ch.Cap == 0
	}
	return isCap(ch.Cap)
}

// end is an end of a channel: a put or a take of a process.
type end struct {
	puts     bool
	proc     int
	index, w int // of the channel
}

// areConnected reports whether the puts and takes of a circuit are the ends that its channels should have. If so, the processes From and To exist, and the channels have valid widths, as valid processes have.
func areConnected(c api.Circuit) bool {
	missing := map[end]bool{}
	for k, ch := range c.Chans {
		if ch.From != -1 {
			missing[end{true, ch.From, k, ch.W}] = true
		}
		if ch.To != -1 {
			missing[end{false, ch.To, k, ch.W}] = true
		}
	}
	for _, e := range ends(c) {
		if !missing[e] {
			return false
		}
		delete(missing, e)
	}
	return len(missing) == 0
}

// ends returns the ends that the processes of a circuit have.
func ends(c api.Circuit) []end {
	var all []end
	for n, p := range c.Procs {
		for _, t := range p.Puts {
			all = append(all, end{true, n, t.Chan, t.W})
		}
		for _, t := range p.Takes {
			all = append(all, end{false, n, t.Chan, t.W})
		}
	}
	return all
}
