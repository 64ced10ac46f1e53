package syntax

import (
	"strconv"

	"wireloom/api"
)

// printer writes the text of a tree. It gives up where there are no words for a part, and where the text gets too long.
type printer struct {
	text  []byte
	signs map[int]string
}

func newPrinter() *printer {
	p := &printer{signs: map[int]string{}}
	for sign, op := range operators() {
		p.signs[op] = sign
	}
	return p
}

func (p *printer) file(f api.File) {
	for _, m := range f.Modules {
		p.write("module ", m.Name)
		p.list(len(m.Params), func(i int) { p.write(m.Params[i]) })
		p.write(" @ ", m.Clock, " {\n")
		for _, i := range m.Items {
			p.write("  ", i, ";\n")
		}
		p.write("}\n")
	}
}

// write writes texts and parts of trees one after the other.
func (p *printer) write(parts ...any) {
	for _, part := range parts {
		switch x := part.(type) {
		case string:
			p.word(x)
		case api.Item:
			p.item(x)
		case api.Rule:
			p.rule(x)
		case api.Num:
			p.num(x)
		case api.Expr:
			p.expr(x)
		}
	}
}

func (p *printer) word(s string) {
	if len(s) > api.MaxText-len(p.text) {
		p.giveUp()
	}
	p.text = append(p.text, s...)
}

func (p *printer) item(i api.Item) {
	switch i.Kind {
	case api.IIn:
		p.write("in ", i.Name, ": ", i.Width)
	case api.IOut:
		p.write("out ", i.Name, ": ", i.Width)
	case api.IChan:
		p.write("chan ", i.Name, ": ", i.Width, " [", i.Depth, "]")
	case api.IReg:
		p.write("reg ", i.Name, ": ", i.Width, " = ", i.Init, " -> ", i.A, " ", i.Rule)
	case api.IWire:
		p.write("wire ", i.Name, ": ", i.Width, " = ", i.A)
	case api.IMem:
		p.write("mem ", i.Name, ": ", i.Width, " [", i.Depth, "] if ", i.A, " at ", i.B, " = ", i.C, " ", i.Rule)
	case api.ITake:
		p.write("take ", i.Name, " if ", i.A)
	case api.IPut:
		p.write("put ", i.Name, " if ", i.A, " = ", i.B)
	case api.IInst:
		p.write("inst ", i.Name, ": ", i.Of)
		p.list(len(i.Args), func(k int) { p.write(i.Args[k]) })
		p.write(" ")
		p.list(len(i.Ports), func(k int) { p.write(i.Ports[k].Port, " = ", i.Ports[k].Chan) })
	default:
		p.giveUp()
	}
}

// list writes n parts in parentheses.
func (p *printer) list(n int, part func(i int)) {
	p.write("(")
	for i := range n {
		if i > 0 {
			p.write(", ")
		}
		part(i)
	}
	p.write(")")
}

func (p *printer) rule(r api.Rule) {
	switch r.Kind {
	case api.RInit:
		p.write("init")
	case api.RKeep:
		p.write("keep")
	case api.RCopy:
		p.write("copy ", r.From)
	case api.RAdd:
		p.write("add ", r.From, " ", strconv.Itoa(r.N))
	default:
		p.giveUp()
	}
}

func (p *printer) num(n api.Num) {
	switch {
	case n.Param == "":
		p.write(strconv.Itoa(n.N))
	case n.N > 0:
		p.write(n.Param, " + ", strconv.Itoa(n.N))
	case n.N < 0:
		p.write(n.Param, " - ", strconv.Itoa(-n.N))
	default:
		p.write(n.Param)
	}
}

func (p *printer) expr(e api.Expr) {
	// Arguments that are missing have no operator, and so no text.
	var args [3]api.Expr
	copy(args[:], e.Args)
	switch e.Op {
	case api.EConst:
		p.write("[", e.K, " : ", e.W, "]")
	case api.ERef:
		p.write(e.Name)
	case api.EMem:
		p.write(e.Name, "[", args[0], "]")
	case api.ENot:
		p.write("~", args[0])
	case api.EMux:
		p.write("(", args[0], " ? ", args[1], " : ", args[2], ")")
	case api.ESlice:
		p.write("{", args[0], " @ ", e.K, " : ", e.W, "}")
	case api.EExt:
		p.write("{", args[0], " : ", e.W, "}")
	default:
		sign, known := p.signs[e.Op]
		if !known {
			p.giveUp()
		}
		p.write("(", args[0], " ", sign, " ", args[1], ")")
	}
}

func (p *printer) giveUp() { panic(refusal{}) }
