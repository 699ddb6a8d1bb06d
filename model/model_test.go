package model

import (
	"math"
	"slices"
	"testing"

	"allornone/api"
	"allornone/part"
)

// at is a part, written short.
func at(house, key, n int) api.Part { return api.Part{House: house, Key: key, N: n} }

func parts(l ...api.Part) []api.Part { return l }

// deeds are Ready ones of these parts, with numbers that mean nothing here.
func deeds(ls ...[]api.Part) []api.Ready {
	var out []api.Ready
	for i, l := range ls {
		out = append(out, api.Ready{Deed: 64 - i, Parts: l})
	}
	return out
}

func TestDo(t *testing.T) {
	const most = api.MaxSum
	for _, c := range []struct {
		name string
		sums [][4]int
		l    []api.Part
		want [][4]int
		err  api.Errno
	}{
		{"one house", [][4]int{{1, 2, 3, 4}}, parts(at(0, 2, 5)), [][4]int{{1, 2, 8, 4}}, api.OK},
		{"from house to house", [][4]int{{0, 7}, {}, {}}, parts(at(0, 1, -5), at(2, 3, 5)), [][4]int{{0, 2}, {}, {0, 0, 0, 5}}, api.OK},
		{"two keys of a house", [][4]int{{9}, {}}, parts(at(0, 0, -9), at(0, 3, 9)), [][4]int{{0, 0, 0, 9}, {}}, api.OK},
		{"all that may be", [][4]int{{1}, {1}, {1}}, parts(at(2, 0, 3), at(0, 0, 1), at(1, 0, 2), at(0, 1, 4)), [][4]int{{2, 4}, {3}, {4}}, api.OK},
		{"nothing more", [][4]int{{1, 2, 3, 4}, {5, 6, 7, 8}}, parts(at(1, 1, 0)), [][4]int{{1, 2, 3, 4}, {5, 6, 7, 8}}, api.OK},
		{"down to nothing", [][4]int{{}, {0, 0, most}}, parts(at(1, 2, -most)), [][4]int{{}, {}}, api.OK},
		{"up to the most", [][4]int{{}, {0, 0, 7}}, parts(at(1, 2, most-7)), [][4]int{{}, {0, 0, most}}, api.OK},
		{"one below nothing", [][4]int{{}, {0, 7, 0, 0}}, parts(at(1, 1, -8)), [][4]int{{}, {0, 7, 0, 0}}, api.ErrLess},
		{"one above the most", [][4]int{{}, {0, 7, 0, 0}}, parts(at(1, 1, most-6)), [][4]int{{}, {0, 7, 0, 0}}, api.ErrMuch},
		{"the first house fits, the second does not", [][4]int{{3}, {}}, parts(at(0, 0, -3), at(1, 0, -1)), [][4]int{{3}, {}}, api.ErrLess},
		{"the second house fits, the first does not", [][4]int{{}, {3}}, parts(at(1, 0, -3), at(0, 0, -1)), [][4]int{{}, {3}}, api.ErrLess},
		{"only the last house does not", [][4]int{{1}, {1}, {most}}, parts(at(0, 0, 1), at(1, 0, 1), at(0, 1, 1), at(2, 0, 1)), [][4]int{{1}, {1}, {most}}, api.ErrMuch},
		{"the lower house is told, though named later", [][4]int{{most}, {}}, parts(at(1, 0, -1), at(0, 0, 1)), [][4]int{{most}, {}}, api.ErrMuch},
		{"the lower house is told, of two", [][4]int{{}, {1}, {most}}, parts(at(2, 0, 1), at(1, 0, -2)), [][4]int{{}, {1}, {most}}, api.ErrLess},
		{"at one house part by part, too much first", [][4]int{{most}}, parts(at(0, 0, 1), at(0, 1, -1)), [][4]int{{most}}, api.ErrMuch},
		{"at one house part by part, too little first", [][4]int{{most}}, parts(at(0, 1, -1), at(0, 0, 1)), [][4]int{{most}}, api.ErrLess},
		{"one key does not make up for another", [][4]int{{9}}, parts(at(0, 0, -9), at(0, 1, 5), at(0, 2, -1)), [][4]int{{9}}, api.ErrLess},
		{"the same key of another house does not either", [][4]int{{0, 9}, {}}, parts(at(0, 1, 1), at(1, 1, -1)), [][4]int{{0, 9}, {}}, api.ErrLess},
		{"most everywhere, and nothing touched", [][4]int{{most, most, most, most}, {}}, parts(at(1, 0, most)), [][4]int{{most, most, most, most}, {most}}, api.OK},
	} {
		got, err := Do(c.sums, c.l)
		if err != c.err || !slices.Equal(got, c.want) {
			t.Errorf("%s: Do(%v, %v) is %v, %d, not %v, %d", c.name, c.sums, c.l, got, err, c.want, c.err)
		}
	}
}

func TestAll(t *testing.T) {
	for _, c := range []struct {
		name   string
		houses int
		l      []api.Ready
		want   [][4]int
		errs   []api.Errno
	}{
		{"no deeds, one house", 1, nil, [][4]int{{}}, nil},
		{"no deeds, all houses", 3, []api.Ready{}, [][4]int{{}, {}, {}}, nil},
		{"one", 2, deeds(parts(at(1, 3, 5))), [][4]int{{}, {0, 0, 0, 5}}, []api.Errno{api.OK}},
		{"from noughts on", 1, deeds(parts(at(0, 0, -1))), [][4]int{{}}, []api.Errno{api.ErrLess}},
		{"each from what the ones ahead left", 2, deeds(parts(at(0, 0, 5)), parts(at(0, 0, -5), at(1, 0, 5)), parts(at(1, 0, -5), at(0, 1, 5))),
			[][4]int{{0, 5}, {}}, []api.Errno{api.OK, api.OK, api.OK}},
		{"in turn", 1, deeds(parts(at(0, 0, -5)), parts(at(0, 0, 5))), [][4]int{{5}}, []api.Errno{api.ErrLess, api.OK}},
		{"behind one that is not done others are", 3, deeds(parts(at(0, 0, api.MaxSum)), parts(at(2, 2, 1), at(0, 0, 1)), parts(at(1, 0, -1), at(2, 2, 1)), parts(at(2, 2, 7))),
			[][4]int{{api.MaxSum}, {}, {0, 0, 7}}, []api.Errno{api.OK, api.ErrMuch, api.ErrLess, api.OK}},
		{"the same number twice is done twice", 1, []api.Ready{{Deed: 70, Parts: parts(at(0, 0, 4))}, {Deed: 70, Parts: parts(at(0, 0, 4))}, {Deed: -1, Parts: parts(at(0, 0, -8))}},
			[][4]int{{}}, []api.Errno{api.OK, api.OK, api.OK}},
	} {
		got, errs := All(c.houses, c.l)
		if !slices.Equal(got, c.want) || !slices.Equal(errs, c.errs) {
			t.Errorf("%s: All(%d, %v) is %v, %v, not %v, %v", c.name, c.houses, c.l, got, errs, c.want, c.errs)
		}
	}
}

func TestTotal(t *testing.T) {
	const most = api.MaxSum
	full := [4]int{most, most, most, most}
	for _, c := range []struct {
		sums [][4]int
		want int
	}{
		{nil, 0},
		{[][4]int{}, 0},
		{[][4]int{{}}, 0},
		{[][4]int{{1, 20, 300, 4000}}, 4321},
		{[][4]int{{0, 0, 0, 1}, {10, 0, 0, 0}, {0, 100, 1000, 0}}, 1111},
		{[][4]int{full, full, full}, 12 * most},
	} {
		if got := Total(c.sums); got != c.want {
			t.Errorf("Total(%v) is %d, not %d", c.sums, got, c.want)
		}
	}
}

// starts are sums of one to all houses, at the edges and between.
func starts() [][][4]int {
	const most = api.MaxSum
	all := [][4]int{{0, 3, most, most - 1}, {2, most, 0, 1}, {most - 2, 0, 1, most}}
	noughts := make([][4]int, api.MaxHouses)
	var out [][][4]int
	for n := 1; n <= api.MaxHouses; n++ {
		out = append(out, all[:n], noughts[:n])
	}
	return out
}

// pairs are right lists of one and two parts, of all places of that many houses.
func pairs(houses int) [][]api.Part {
	var ones []api.Part
	for house := range houses {
		for key := range api.MaxKeys {
			for _, n := range []int{-api.MaxSum, -2, 0, 1, api.MaxSum} {
				ones = append(ones, at(house, key, n))
			}
		}
	}
	var out [][]api.Part
	for _, p := range ones {
		out = append(out, parts(p))
		for _, q := range ones {
			if l := parts(p, q); part.Wrong(l, houses) == api.OK {
				out = append(out, l)
			}
		}
	}
	return out
}

// inBounds tells whether no sum is one that a house cannot have.
func inBounds(sums [][4]int) bool {
	for _, keys := range sums {
		for _, sum := range keys {
			if sum < 0 || sum > api.MaxSum {
				return false
			}
		}
	}
	return true
}

// plain answers the sums with all parts done, each at its own place, whatever comes of it.
func plain(sums [][4]int, l []api.Part) [][4]int {
	out := slices.Clone(sums)
	for _, p := range l {
		out[p.House][p.Key] += p.N
	}
	return out
}

// TestAllOrNone: a deed is done whole where it leaves sums that may be, and not at all elsewhere.
func TestAllOrNone(t *testing.T) {
	for _, sums := range starts() {
		for _, l := range pairs(len(sums)) {
			want := plain(sums, l)
			fits := inBounds(want)
			if !fits {
				want = sums
			}
			got, err := Do(sums, l)
			if (err == api.OK) != fits || !slices.Equal(got, want) {
				t.Fatalf("Do(%v, %v) is %v, %d, not %v", sums, l, got, err, want)
			}
		}
	}
}

// TestRisingHouses: of two houses where a part does not fit, the lower one's error is told, however the parts are turned.
func TestRisingHouses(t *testing.T) {
	for _, sums := range starts() {
		for _, l := range pairs(len(sums)) {
			want := api.OK
			for _, house := range slices.Backward(part.Houses(l)) {
				if err := part.Fits(sums[house], part.Of(l, house)); err != api.OK {
					want = err
				}
			}
			if _, err := Do(sums, l); err != want {
				t.Fatalf("Do(%v, %v) tells %d, not %d", sums, l, err, want)
			}
		}
	}
}

// TestApart: of two deeds that have no place in common either may go first.
func TestApart(t *testing.T) {
	before := parts(at(0, 0, 5), at(0, 1, 5), at(1, 0, 5), at(2, 3, api.MaxSum))
	one := parts(at(0, 0, -5), at(1, 1, 5))
	for _, other := range [][]api.Part{
		parts(at(0, 1, -5), at(1, 2, 5)),
		parts(at(1, 0, -6), at(2, 0, 6)),
		parts(at(2, 3, 1), at(0, 1, -1)),
		parts(at(1, 0, -5), at(0, 2, 5)),
	} {
		ahead, errs := All(3, deeds(before, one, other))
		behind, turned := All(3, deeds(before, other, one))
		if !slices.Equal(ahead, behind) || errs[1] != turned[2] || errs[2] != turned[1] {
			t.Errorf("with %v: %v, %v, and turned %v, %v", other, ahead, errs, behind, turned)
		}
	}
}

// TestAllIsDoInTurn: All is what Do makes, one behind the other, of noughts; what only moves leaves the total.
func TestAllIsDoInTurn(t *testing.T) {
	for houses := 1; houses <= api.MaxHouses; houses++ {
		var ls [][]api.Part
		for i, l := range pairs(houses) {
			if i%7 == 0 {
				ls = append(ls, l)
			}
		}
		sums := make([][4]int, houses)
		var want []api.Errno
		for _, l := range ls {
			total := Total(sums)
			next, err := Do(sums, l)
			more := 0
			if err == api.OK {
				for _, p := range l {
					more += p.N
				}
			}
			if Total(next) != total+more {
				t.Fatalf("Do(%v, %v) has a total of %d, not %d", sums, l, Total(next), total+more)
			}
			sums, want = next, append(want, err)
		}
		got, errs := All(houses, deeds(ls...))
		if !slices.Equal(got, sums) || !slices.Equal(errs, want) {
			t.Errorf("All of %d houses is %v, not %v", houses, got, sums)
		}
	}
}

// TestOnlyRead: neither what is handed in nor the room behind it changes, nor is the room looked at.
func TestOnlyRead(t *testing.T) {
	sumRoom := [][4]int{{9, 9}, {9}, {1, 2, 3, 4}, {5, 6, 7, 8}}
	partRoom := parts(at(0, 0, -9), at(1, 0, 1), at(0, 1, -10), at(1, 1, -1))
	deedRoom := deeds(partRoom[1:2], partRoom[1:3], partRoom[3:])
	sumsKept, partsKept := slices.Clone(sumRoom), slices.Clone(partRoom)
	if got, err := Do(sumRoom[:2], partRoom[:2]); err != api.OK || !slices.Equal(got, [][4]int{{0, 9}, {10}}) {
		t.Errorf("Do is %v, %d", got, err)
	}
	Do(sumRoom[:2], partRoom[:3])
	if got, errs := All(2, deedRoom[:2]); !slices.Equal(got, [][4]int{{}, {1}}) || !slices.Equal(errs, []api.Errno{api.OK, api.ErrLess}) {
		t.Errorf("All is %v, %v", got, errs)
	}
	if got := Total(sumRoom[:2]); got != 27 {
		t.Errorf("Total is %d", got)
	}
	if !slices.Equal(sumRoom, sumsKept) || !slices.Equal(partRoom, partsKept) {
		t.Errorf("what was handed in is %v and %v now", sumRoom, partRoom)
	}
	for i, d := range deedRoom {
		if d.Deed != 64-i {
			t.Errorf("what was handed in is %v now", deedRoom)
		}
	}
}

// TestAnswersAreNew: whoever has the answer may change it, its spare room too, and what was handed in stays; and the other way round.
func TestAnswersAreNew(t *testing.T) {
	for _, l := range [][]api.Part{nil, parts(at(0, 0, 0)), parts(at(0, 0, -1)), parts(at(0, 0, 5)), parts(at(0, 0, 1), at(1, 0, -9))} {
		room := [][4]int{{}, {1}, {2}, {3}}
		kept := slices.Clone(room)
		got, _ := Do(room[:2], l)
		answered := slices.Clone(got)
		for i := range room {
			room[i] = [4]int{6, 6, 6, 6}
		}
		if !slices.Equal(got, answered) {
			t.Errorf("Do's answer of %v is %v now, not %v", l, got, answered)
		}
		copy(room, kept)
		all := got[:cap(got)]
		for i := range all {
			all[i] = [4]int{7, 7, 7, 7}
		}
		if !slices.Equal(room, kept) {
			t.Errorf("behind Do of %v the sums are %v, not %v", l, room, kept)
		}
	}
	l := deeds(parts(at(0, 0, 5)), parts(at(0, 0, -6)))
	sums, errs := All(1, l)
	sums[0][0], errs[0] = 77, api.ErrFull
	if again, told := All(1, l); !slices.Equal(again, [][4]int{{5}}) || !slices.Equal(told, []api.Errno{api.OK, api.ErrLess}) {
		t.Errorf("a second time All is %v, %v", again, told)
	}
}

// TestNoPanic: what is wrong is nobody's promise, but no call panics over it, and nil is as good as empty.
func TestNoPanic(t *testing.T) {
	edges := []int{math.MinInt, -1, 0, 1, 2, 3, 4, math.MaxInt}
	var wild []api.Part
	for _, house := range edges {
		for _, key := range edges {
			wild = append(wild, at(house, key, math.MaxInt), at(house, key, math.MinInt), at(house, key, 1))
		}
	}
	far := [4]int{math.MaxInt, math.MinInt, math.MaxInt, -1}
	for _, sums := range [][][4]int{nil, {}, {far}, {far, far, far, far, far}, make([][4]int, 100)} {
		Total(sums)
		Do(sums, wild)
		for i := range wild {
			Do(sums, wild[i:i+1])
		}
		for _, none := range [][]api.Part{nil, {}} {
			if got, err := Do(sums, none); err != api.OK || !slices.Equal(got, sums) {
				t.Errorf("Do(%v) of no parts is %v, %d", sums, got, err)
			}
		}
	}
	for _, houses := range edges {
		All(houses, deeds(wild, nil, parts(at(0, 0, 1))))
		All(houses, nil)
	}
}
