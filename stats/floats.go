package stats

import (
	"cmp"
	"math"
)

const (
	aNumber = iota // the kinds that Mills tells
	noNumber
	infinite
	infiniteBelow
	tooLarge
)

const mostMills = 1 << 53 // behind it not every whole number is a float

// Ratio is one number through another one. Nothing is refused: a float can be what a division by 0 comes to.
func Ratio(a, b float64) float64 { return a / b }

// Order tells how two numbers stand: -1, 0, 1; every number has its place.
func Order(a, b float64) int { return cmp.Compare(place(a), place(b)) }

// place is a whole number that stands among those of other floats as the float among them. A float's bits rise with its size: those with a sign are turned round.
func place(x float64) int64 {
	if math.IsNaN(x) {
		return math.MaxInt64
	}
	bits := int64(math.Float64bits(x))
	if math.Signbit(x) {
		return bits ^ math.MaxInt64
	}
	return bits
}

// Mills is a number's thousandths, if it has any; else what kind of number it is.
func Mills(x float64) (n, kind int) {
	switch {
	case math.IsNaN(x):
		return 0, noNumber
	case math.IsInf(x, 1):
		return 0, infinite
	case math.IsInf(x, -1):
		return 0, infiniteBelow
	}
	mills := float64(x * 1000)
	if mills > mostMills || mills < -mostMills {
		return 0, tooLarge
	}
	return int(mills), aNumber
}
