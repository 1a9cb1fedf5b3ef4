package vcd

// The lines of a dump that are the same in all of them.
const (
	timescale   = "$timescale 1 ns $end"
	scope       = "$scope module top $end"
	upscope     = "$upscope $end"
	definitions = "$enddefinitions $end"
	dumpvars    = "$dumpvars"
	dumped      = "$end"
)

// What the other lines are made of.
const (
	netBegins  = "$var wire " // then its width, its code, its name
	netEnds    = " $end"
	netWords   = 6
	timeBegins = "#"
	wideBegins = "b" // a value of more than one bit
	unnamed    = "_" // stands for an empty name
)

// refused is what is thrown where a dump would be too long, or where bytes are none.
type refused struct{}
