package sema

import "silkworm/api"

// What a name is. (0: it is none.)
const (
	input    = 1 + iota // a net that nothing drives within its module
	wire                // a net that assigns and outputs of instances drive
	reg                 // a net that always drives
	constant            // a parameter, a localparam, a for's variable
	label               // an instance's name, a for's label
)

// names is names with what they are.
type names map[string]int

// add tells whether a name was not there.
func (n names) add(name string, kind int) bool {
	if n[name] != 0 {
		return false
	}
	n[name] = kind
	return true
}

// scope is a module, or a for within what is around it.
type scope struct {
	around *scope
	names  names
	driven names // those of its nets that have a driver by now
}

func newScope(around *scope) *scope {
	return &scope{around: around, names: names{}, driven: names{}}
}

// kind is what a name is in the innermost scope that has it.
func (s *scope) kind(name string) int {
	for ; s != nil; s = s.around {
		if kind := s.names[name]; kind != 0 {
			return kind
		}
	}
	return 0
}

// target refuses a name that may not be driven here: at one place what is no name, at the other one what is not of the kind.
func (s *scope) target(name string, kind, wordAt, at int) {
	if s.kind(name) == 0 {
		giveUp(wordAt, api.ErrWord)
	}
	if s.names[name] != kind {
		giveUp(at, api.ErrTarget)
	}
}

// drive gives a net its driver.
func (s *scope) drive(name string, at int) {
	if !s.driven.add(name, s.names[name]) {
		giveUp(at, api.ErrDrive)
	}
}

func isNet(kind int) bool {
	return kind == input || kind == wire || kind == reg
}

func isValue(kind int) bool {
	return isNet(kind) || kind == constant
}

func portKind(p *api.Port) int {
	switch {
	case !p.Out:
		return input
	case p.Reg:
		return reg
	}
	return wire
}

// declare lets a scope have a name.
func (c *checker) declare(s *scope, name string, kind, at int) {
	c.look()
	if !s.names.add(name, kind) {
		giveUp(at, api.ErrTwice)
	}
}

// itemNames lets a scope have the names of an item; those within a for are its own.
func (c *checker) itemNames(s *scope, x *api.Item) {
	switch x.Kind {
	case api.ItWire:
		c.netNames(s, x, wire)
	case api.ItReg:
		c.netNames(s, x, reg)
	case api.ItLocal:
		c.declare(s, x.Name, constant, x.At)
	case api.ItInst, api.ItFor:
		c.declare(s, x.Name, label, x.At)
	}
}

func (c *checker) netNames(s *scope, x *api.Item, kind int) {
	for _, name := range x.Names {
		c.declare(s, name, kind, x.At)
	}
}
