package flow

import (
	"iter"

	"wharfinger/api"
)

// joined goes over the acts of all parts, one part behind the other.
func joined(parts ...iter.Seq[api.Act]) iter.Seq[api.Act] {
	return func(yield func(api.Act) bool) {
		// No loop hands in nil, but a caller may.
		if yield == nil {
			return
		}
		for _, part := range parts {
			for a := range part {
				if !yield(a) {
					return
				}
			}
		}
	}
}

// alone goes over one act that is of no step.
func alone(kind int) iter.Seq[api.Act] {
	return func(yield func(api.Act) bool) {
		yield(api.Act{Kind: kind})
	}
}

// rising goes over an act of each step, the first one first.
func rising(kind, steps int) iter.Seq[api.Act] {
	return func(yield func(api.Act) bool) {
		for i := 0; i < steps && yield(api.Act{Kind: kind, Step: i}); i++ {
		}
	}
}

// falling goes over an act of each step, the last one first.
func falling(kind, steps int) iter.Seq[api.Act] {
	return func(yield func(api.Act) bool) {
		for i := steps - 1; i >= 0 && yield(api.Act{Kind: kind, Step: i}); i-- {
		}
	}
}
