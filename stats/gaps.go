package stats

import "math"

// gapsOf is the times between each time and the next. They are taken as whole numbers, since two late times may be the same float.
func gapsOf(times []int) []float64 {
	var out []float64
	for i := 1; i < len(times); i++ {
		out = append(out, float64(times[i]-times[i-1]))
	}
	return out
}

func sum(list []float64) float64 {
	total := 0.0
	for _, x := range list {
		total += x
	}
	return total
}

// squares is the sum of the squares of how far each one is from the mean.
func squares(list []float64, mean float64) float64 {
	total := 0.0
	for _, x := range list {
		far := x - mean
		// Without the conversion, some machines would round the product and the sum as one.
		total += float64(far * far)
	}
	return total
}

// ends is the least and the greatest one: of none what any one would be below and above.
func ends(list []float64) (least, most float64) {
	least, most = math.Inf(1), math.Inf(-1)
	for _, x := range list {
		least, most = min(least, x), max(most, x)
	}
	return least, most
}
