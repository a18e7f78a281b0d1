package program

import (
	"verdigris/api"
	"verdigris/must"
)

// stack is a list of numbers, the top at its end.
type stack[T any] []T

func (s stack[T]) size() int {
	return len(s)
}

// rule says how many numbers a step takes, and what it makes of them.
type rule[T any] struct {
	takes int
	apply func(l ...T) T
}

// machine runs programs on numbers of one kind.
type machine[T any] struct {
	stack[T]
	inputs []T
	number func(n int) T
	rules  map[int]rule[T]
	puts   map[int]func(m *machine[T], arg int) T // steps that take no number
	most   int
}

func newMachine[T any](inputs []T, number func(n int) T, rules map[int]rule[T]) *machine[T] {
	return &machine[T]{inputs: inputs, number: number, rules: rules, puts: map[int]func(m *machine[T], arg int) T{
		api.PuIn:   (*machine[T]).input,
		api.PuNum:  (*machine[T]).constant,
		api.PuCopy: (*machine[T]).again,
	}}
}

func (m *machine[T]) input(arg int) T {
	must.Hold(arg >= 0 && arg < len(m.inputs), api.ErrProgram)
	return m.inputs[arg]
}

func (m *machine[T]) constant(arg int) T {
	must.Hold(arg >= -api.MaxNum && arg <= api.MaxNum, api.ErrProgram)
	return m.number(arg)
}

func (m *machine[T]) again(arg int) T {
	must.Hold(arg >= 0 && arg < m.size(), api.ErrProgram)
	return m.stack[m.size()-1-arg]
}

// put puts a number on the stack.
func (m *machine[T]) put(a T) {
	m.stack = append(m.stack, a)
	must.Hold(m.size() <= api.MaxStack, api.ErrProgram)
	m.most = max(m.most, m.size())
}

// step makes a step; a wrong one ends the run.
func (m *machine[T]) step(op api.Op) {
	if find, ok := m.puts[op.Code]; ok {
		m.put(find(m, op.Arg))
		return
	}
	r, ok := m.rules[op.Code]
	must.Hold(ok && op.Arg == 0 && r.takes <= m.size(), api.ErrProgram)
	from := m.size() - r.takes
	made := r.apply(m.stack[from:]...)
	m.stack = m.stack[:from]
	m.put(made)
}

// run makes all steps, after which there must be so many numbers.
func (m *machine[T]) run(p []api.Op, out int) {
	fits := true
walking:
	for i, op := range p {
		if fits = i < api.MaxOps; !fits {
			break walking
		}
		m.step(op)
	}
	must.Hold(fits && m.size() == out, api.ErrProgram)
}
