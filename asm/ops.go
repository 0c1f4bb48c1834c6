package asm

import (
	"math"

	"hasp/api"
	"hasp/code"
	"hasp/lex"
	"hasp/op"
	"hasp/parse"
)

// instruction is how many bytes one has.
const instruction = 4

// operands tells how many operands an op has, false if there is no such op.
func operands(name string) (int, bool) {
	switch name {
	case "call", "ret":
		return 0, true
	case "jmp":
		return 1, true
	case "lda", "set":
		return 2, true
	}
	o, ok := op.Named(name)
	n := registers(o.Form)
	if hasConstant(o.Form) {
		n++
	}
	return n, ok
}

// registers tells how many operands of a form are registers. They stand ahead of
// what else it has; each case has one more than the one that it falls through to.
func registers(form int) int {
	n := 0
	switch form {
	case op.R3:
		n++
		fallthrough
	case op.R2, op.I, op.B:
		n++
		fallthrough
	case op.R1, op.U, op.J, op.M:
		n++
	}
	return n
}

// hasConstant tells whether a form has an operand behind its registers.
func hasConstant(form int) bool {
	switch form {
	case op.I, op.U, op.B, op.J, op.M, op.N:
		return true
	}
	return false
}

// fillCode puts the instructions of an op.
func (p *program) fillCode(l placed) error {
	list, err := p.instructions(l)
	if err != nil {
		return err
	}
	at := l.at
	for _, i := range list {
		w, err := code.Encode(i)
		if err != nil {
			return err
		}
		putNumber(p.object.Code[at:at+instruction], w)
		at += instruction
	}
	return nil
}

// instructions answers what an op is, not asking whether constants are too great.
func (p *program) instructions(l placed) ([]code.Inst, error) {
	if l.Name == "set" {
		return p.set(l.Args)
	}
	l.Line = plain(l.Line)
	i, err := p.single(l)
	return []code.Inst{i}, err
}

// plain answers the line that an op which is short for another one stands for.
func plain(l parse.Line) parse.Line {
	switch l.Name {
	case "jmp":
		return parse.Line{Name: "jal", Args: [][]lex.Token{register("c0"), l.Args[0]}}
	case "call":
		return parse.Line{Name: "ecall", Args: [][]lex.Token{number(1)}}
	case "ret":
		return parse.Line{Name: "ecall", Args: [][]lex.Token{number(2)}}
	case "lda":
		return parse.Line{Name: "cinci", Args: [][]lex.Token{l.Args[0], register("c3"), l.Args[1]}}
	}
	return l
}

func register(name string) []lex.Token { return []lex.Token{{Kind: lex.Name, Text: name}} }

func number(n int64) []lex.Token { return []lex.Token{{Kind: lex.Num, N: n}} }

// set answers two instructions that put any number of 32 bits. As xori widens
// its constant by the sign, lui's is what makes up for that.
func (p *program) set(args [][]lex.Token) ([]code.Inst, error) {
	rd, ok := parse.Reg(args[0])
	if !ok {
		return nil, api.ErrForm
	}
	n, err := p.within(args[1], math.MinInt32, math.MaxUint32)
	if err != nil {
		return nil, err
	}
	low := int32(int16(n))
	high := (int32(n) ^ low) >> 16
	return []code.Inst{
		{Op: coded("lui"), Rd: rd, Imm: high},
		{Op: coded("xori"), Rd: rd, Rs: rd, Imm: low},
	}, nil
}

func coded(name string) int {
	o, _ := op.Named(name)
	return o.Code
}

// single answers the instruction that an op is.
func (p *program) single(l placed) (code.Inst, error) {
	o, _ := op.Named(l.Name)
	i := code.Inst{Op: o.Code}
	fields := []*int{&i.Rd, &i.Rs, &i.Rt}
	for k := range registers(o.Form) {
		n, ok := parse.Reg(l.Args[k])
		if !ok {
			return code.Inst{}, api.ErrForm
		}
		*fields[k] = n
	}
	if !hasConstant(o.Form) {
		return i, nil
	}
	if err := p.last(l, o.Form, &i); err != nil {
		return code.Inst{}, err
	}
	return i, nil
}

// last reads the operand behind the registers into i.
func (p *program) last(l placed, form int, i *code.Inst) error {
	arg := l.Args[len(l.Args)-1]
	var n int64
	var err error
	switch form {
	case op.M:
		imm, rs, ok := parse.Mem(arg)
		if !ok {
			return api.ErrForm
		}
		i.Rs, arg = rs, imm
		if len(arg) == 0 {
			break
		}
		// What stands ahead of the brackets is a constant like any other.
		fallthrough
	case op.I, op.U, op.N:
		n, err = p.constant(arg)
	case op.B, op.J:
		n, err = p.distance(arg, l.at)
	}
	i.Imm = cut(n)
	return err
}

// distance answers by how many instructions a place of the code lies behind at.
func (p *program) distance(l []lex.Token, at int) (int64, error) {
	n, err := p.constant(l)
	if err != nil {
		return 0, err
	}
	n -= int64(at)
	if n%instruction != 0 {
		return 0, api.ErrAlign
	}
	return n / instruction, nil
}

// cut answers the number of 32 bits that is next to n. Code tells that it is too
// great, but can't be handed a greater one.
func cut(n int64) int32 { return int32(min(max(n, math.MinInt32), math.MaxInt32)) }
