// Package part has parts of deeds: see doc/01-part.md.
package part

import (
	"slices"

	"allornone/api"
)

// Wrong tells what is wrong with the parts of a deed, where there are that many houses.
func Wrong(l []api.Part, houses int) api.Errno {
	if len(l) < 1 || len(l) > api.MaxParts {
		return api.ErrMany
	}
	for i, p := range l {
		if !inRange(p, houses) {
			return api.ErrRange
		}
		if slices.ContainsFunc(l[:i], samePlace(p)) {
			return api.ErrMuch
		}
	}
	return api.OK
}

// Of answers the parts at a house, in turn.
func Of(l []api.Part, house int) []api.Part {
	return keep(l, func(p api.Part) bool { return p.House == house })
}

// Houses answers the houses where parts are, rising, each once.
func Houses(l []api.Part) []int {
	out := make([]int, 0, len(l))
	for _, p := range l {
		out = append(out, p.House)
	}
	slices.Sort(out)
	return slices.Compact(out)
}

// Fits tells whether a house with these sums can do its parts.
func Fits(sums [4]int, l []api.Part) api.Errno {
	for _, p := range l {
		if !hasKey(p) {
			continue
		}
		sum := sums[p.Key] + p.N
		if sum < 0 {
			return api.ErrLess
		}
		if sum > api.MaxSum {
			return api.ErrMuch
		}
	}
	return api.OK
}

// Do answers the sums of a house when its parts are done, whether they fit or not.
func Do(sums [4]int, l []api.Part) [4]int {
	for _, p := range l {
		if hasKey(p) {
			sums[p.Key] += p.N
		}
	}
	return sums
}

func inRange(p api.Part, houses int) bool {
	return p.House >= 0 && p.House < houses && hasKey(p) && p.N >= -api.MaxSum && p.N <= api.MaxSum
}

// hasKey also keeps Fits and Do from reaching beside the sums, when a part is not right.
func hasKey(p api.Part) bool {
	return p.Key >= 0 && p.Key < api.MaxKeys
}

// samePlace answers what tells whether a part is of the same house and key as p.
func samePlace(p api.Part) func(api.Part) bool {
	return func(q api.Part) bool { return q.House == p.House && q.Key == p.Key }
}

// keep answers a list of its own: whoever handed l in may change it afterwards.
func keep(l []api.Part, wanted func(api.Part) bool) []api.Part {
	var out []api.Part
	for _, p := range l {
		if wanted(p) {
			out = append(out, p)
		}
	}
	return out
}
