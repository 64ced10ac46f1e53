package syntax

import (
	"strconv"

	"wireloom/api"
)

// deepest is the greatest depth of an expression.
const deepest = 8

// parser reads tokens from left to right and gives up at the first one that cannot continue.
type parser struct {
	left      []api.Token // the tokens still to be read; the one at the end is never taken
	reserved  map[string]bool
	operators map[string]int
	items     map[string]func(*parser) api.Item
}

func newParser(tokens []api.Token) *parser {
	return &parser{
		left: tokens,
		reserved: map[string]bool{
			"module": true, "in": true, "out": true, "chan": true, "reg": true, "wire": true, "mem": true, "take": true,
			"put": true, "inst": true, "if": true, "at": true, "init": true, "keep": true, "copy": true, "add": true,
		},
		operators: operators(),
		items: map[string]func(*parser) api.Item{
			"in": (*parser).input, "out": (*parser).output, "chan": (*parser).channel,
			"reg": (*parser).register, "wire": (*parser).wire, "mem": (*parser).memory,
			"take": (*parser).take, "put": (*parser).put, "inst": (*parser).instance,
		},
	}
}

// operators returns the operators with two arguments, by their signs.
func operators() map[string]int {
	return map[string]int{
		"&": api.EAnd, "|": api.EOr, "^": api.EXor, "+": api.EAdd,
		"-": api.ESub, "==": api.EEq, "<": api.ELt, ".": api.ECat,
	}
}

func (p *parser) file() api.File {
	var f api.File
	for p.next().Kind != api.TokEnd {
		f.Modules = append(f.Modules, p.module())
	}
	return f
}

func (p *parser) module() api.Module {
	p.expect("module")
	m := api.Module{Name: p.name()}
	p.list(func() { m.Params = append(m.Params, p.name()) })
	p.expect("@")
	m.Clock = p.name()
	p.expect("{")
	for !p.accept("}") {
		m.Items = append(m.Items, p.item())
		p.expect(";")
	}
	return m
}

func (p *parser) item() api.Item {
	parse, known := p.items[p.next().Text]
	if !known {
		p.refuse()
	}
	p.skip()
	return parse(p)
}

func (p *parser) input() api.Item {
	return api.Item{Kind: api.IIn, Name: p.name(), Width: p.numBehind(":")}
}

func (p *parser) output() api.Item {
	return api.Item{Kind: api.IOut, Name: p.name(), Width: p.numBehind(":")}
}

func (p *parser) channel() api.Item {
	return api.Item{Kind: api.IChan, Name: p.name(), Width: p.numBehind(":"), Depth: p.bracketed()}
}

func (p *parser) register() api.Item {
	return api.Item{Kind: api.IReg, Name: p.name(), Width: p.numBehind(":"), Init: p.numBehind("="), A: p.exprBehind("->"), Rule: p.rule()}
}

func (p *parser) wire() api.Item {
	return api.Item{Kind: api.IWire, Name: p.name(), Width: p.numBehind(":"), A: p.exprBehind("=")}
}

func (p *parser) memory() api.Item {
	return api.Item{
		Kind: api.IMem, Name: p.name(), Width: p.numBehind(":"), Depth: p.bracketed(),
		A: p.exprBehind("if"), B: p.exprBehind("at"), C: p.exprBehind("="), Rule: p.rule(),
	}
}

func (p *parser) take() api.Item {
	return api.Item{Kind: api.ITake, Name: p.name(), A: p.exprBehind("if")}
}

func (p *parser) put() api.Item {
	return api.Item{Kind: api.IPut, Name: p.name(), A: p.exprBehind("if"), B: p.exprBehind("=")}
}

func (p *parser) instance() api.Item {
	i := api.Item{Kind: api.IInst, Name: p.name()}
	p.expect(":")
	i.Of = p.name()
	p.list(func() { i.Args = append(i.Args, p.num()) })
	p.list(func() { i.Ports = append(i.Ports, p.binding()) })
	return i
}

func (p *parser) binding() api.Bind {
	b := api.Bind{Port: p.name()}
	p.expect("=")
	b.Chan = p.name()
	return b
}

func (p *parser) rule() api.Rule {
	switch {
	case p.accept("init"):
		return api.Rule{Kind: api.RInit}
	case p.accept("keep"):
		return api.Rule{Kind: api.RKeep}
	case p.accept("copy"):
		return api.Rule{Kind: api.RCopy, From: p.name()}
	}
	p.expect("add")
	return api.Rule{Kind: api.RAdd, From: p.name(), N: p.number(0)}
}

// list parses any number of parts in parentheses, with commas between them.
func (p *parser) list(part func()) {
	p.expect("(")
	if p.accept(")") {
		return
	}
	part()
	for !p.accept(")") {
		p.expect(",")
		part()
	}
}

func (p *parser) num() api.Num {
	if p.next().Kind == api.TokNumber {
		return api.Num{N: p.number(0)}
	}
	n := api.Num{Param: p.name()}
	switch {
	case p.accept("+"):
		n.N = p.number(1)
	case p.accept("-"):
		n.N = -p.number(1)
	}
	return n
}

func (p *parser) numBehind(sign string) api.Num {
	p.expect(sign)
	return p.num()
}

func (p *parser) bracketed() api.Num {
	n := p.numBehind("[")
	p.expect("]")
	return n
}

func (p *parser) exprBehind(text string) api.Expr {
	p.expect(text)
	return p.expr(deepest)
}

// expr parses an expression of at most the depth most, which is at least 1.
func (p *parser) expr(most int) api.Expr {
	switch {
	case p.accept("["):
		return p.constant()
	case most > 1 && p.accept("~"):
		return api.Expr{Op: api.ENot, Args: []api.Expr{p.expr(most - 1)}}
	case most > 1 && p.accept("("):
		return p.operation(most - 1)
	case most > 1 && p.accept("{"):
		return p.resized(most - 1)
	}
	e := api.Expr{Op: api.ERef, Name: p.name()}
	if most > 1 && p.accept("[") {
		e.Op, e.Args = api.EMem, []api.Expr{p.expr(most - 1)}
		p.expect("]")
	}
	return e
}

// constant parses what follows the bracket of a constant.
func (p *parser) constant() api.Expr {
	e := api.Expr{Op: api.EConst, K: p.num(), W: p.numBehind(":")}
	p.expect("]")
	return e
}

// operation parses what follows the parenthesis of an expression with an operator or a question mark.
func (p *parser) operation(most int) api.Expr {
	e := api.Expr{Args: []api.Expr{p.expr(most)}}
	if p.accept("?") {
		e.Op = api.EMux
		e.Args = append(e.Args, p.expr(most))
		p.expect(":")
	} else {
		e.Op = p.operator()
	}
	e.Args = append(e.Args, p.expr(most))
	p.expect(")")
	return e
}

func (p *parser) operator() int {
	op, known := p.operators[p.next().Text]
	if !known {
		p.refuse()
	}
	p.skip()
	return op
}

// resized parses what follows the brace of a slice or an extension.
func (p *parser) resized(most int) api.Expr {
	e := api.Expr{Op: api.EExt, Args: []api.Expr{p.expr(most)}}
	if p.accept("@") {
		e.Op, e.K = api.ESlice, p.num()
	}
	e.W = p.numBehind(":")
	p.expect("}")
	return e
}

func (p *parser) name() string {
	token := p.next()
	if token.Kind != api.TokName || p.reserved[token.Text] {
		p.refuse()
	}
	p.skip()
	return token.Text
}

// number parses a number that is at least least.
func (p *parser) number(least int) int {
	n, err := strconv.Atoi(p.next().Text)
	if err != nil || n < least {
		p.refuse()
	}
	p.skip()
	return n
}

func (p *parser) expect(text string) {
	if !p.accept(text) {
		p.refuse()
	}
}

// accept takes the next token if it has this text, and reports whether it has.
func (p *parser) accept(text string) bool {
	if p.next().Text != text {
		return false
	}
	p.skip()
	return true
}

func (p *parser) next() api.Token { return p.left[0] }

func (p *parser) skip() { p.left = p.left[1:] }

func (p *parser) refuse() { panic(refusal{p.next().At}) }
