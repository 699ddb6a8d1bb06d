package part

import (
	"math"
	"slices"
	"testing"

	"allornone/api"
)

// at is a part, written short.
func at(house, key, n int) api.Part { return api.Part{House: house, Key: key, N: n} }

func TestWrong(t *testing.T) {
	for _, c := range []struct {
		name   string
		l      []api.Part
		houses int
		want   api.Errno
	}{
		{"nil", nil, 3, api.ErrMany},
		{"empty", []api.Part{}, 3, api.ErrMany},
		{"none, and no houses", nil, 0, api.ErrMany},
		{"one", []api.Part{at(0, 0, 0)}, 3, api.OK},
		{"as many as may be", []api.Part{at(0, 0, 1), at(0, 1, 1), at(0, 2, 1), at(0, 3, 1)}, 3, api.OK},
		{"one too many", []api.Part{at(0, 0, 1), at(0, 1, 1), at(0, 2, 1), at(0, 3, 1), at(1, 0, 1)}, 3, api.ErrMany},
		{"too many ahead of out of range", make([]api.Part, 5), 0, api.ErrMany},
		{"last house", []api.Part{at(2, 0, 1)}, 3, api.OK},
		{"house behind the last", []api.Part{at(3, 0, 1)}, 3, api.ErrRange},
		{"house below 0", []api.Part{at(-1, 0, 1)}, 3, api.ErrRange},
		{"fewer houses", []api.Part{at(1, 0, 1)}, 1, api.ErrRange},
		{"no houses", []api.Part{at(0, 0, 1)}, 0, api.ErrRange},
		{"houses below 0", []api.Part{at(-2, 0, 1)}, -1, api.ErrRange},
		{"more houses than there may be", []api.Part{at(6, 0, 1)}, 7, api.OK},
		{"any house", []api.Part{at(math.MaxInt-1, 0, 1)}, math.MaxInt, api.OK},
		{"least house", []api.Part{at(math.MinInt, 0, 1)}, math.MinInt, api.ErrRange},
		{"last key", []api.Part{at(0, 3, 1)}, 3, api.OK},
		{"key behind the last", []api.Part{at(0, 4, 1)}, 3, api.ErrRange},
		{"key below 0", []api.Part{at(0, -1, 1)}, 3, api.ErrRange},
		{"most", []api.Part{at(0, 0, api.MaxSum)}, 3, api.OK},
		{"more than most", []api.Part{at(0, 0, api.MaxSum+1)}, 3, api.ErrRange},
		{"least", []api.Part{at(0, 0, -api.MaxSum)}, 3, api.OK},
		{"less than least", []api.Part{at(0, 0, -api.MaxSum-1)}, 3, api.ErrRange},
		{"greatest int", []api.Part{at(0, 0, math.MaxInt)}, 3, api.ErrRange},
		{"least int", []api.Part{at(0, 0, math.MinInt)}, 3, api.ErrRange},
		{"same place", []api.Part{at(1, 2, 5), at(1, 2, -5)}, 3, api.ErrMuch},
		{"same place, not side by side", []api.Part{at(1, 2, 5), at(0, 2, 5), at(1, 1, 5), at(1, 2, 6)}, 3, api.ErrMuch},
		{"same key, another house", []api.Part{at(0, 2, 5), at(1, 2, 5), at(2, 2, 5)}, 3, api.OK},
		{"same N", []api.Part{at(0, 1, 5), at(0, 2, 5)}, 3, api.OK},
		{"a later one out of range", []api.Part{at(0, 1, 5), at(0, 2, 5), at(0, 4, 5)}, 3, api.ErrRange},
		{"same place, then out of range", []api.Part{at(0, 1, 5), at(0, 1, 5), at(3, 0, 0)}, 3, api.ErrMuch},
		{"out of range, then same place", []api.Part{at(3, 0, 0), at(0, 1, 5), at(0, 1, 5)}, 3, api.ErrRange},
		{"same place, and out of range itself", []api.Part{at(0, 1, 5), at(0, 1, api.MaxSum+1)}, 3, api.ErrRange},
	} {
		if got := Wrong(c.l, c.houses); got != c.want {
			t.Errorf("%s: Wrong(%v, %d) is %d, not %d", c.name, c.l, c.houses, got, c.want)
		}
	}
}

func TestOf(t *testing.T) {
	l := []api.Part{at(2, 3, 5), at(0, 3, -7), at(2, 1, 9), at(0, 0, 0)}
	for house, want := range map[int][]api.Part{
		-1: nil,
		0:  {at(0, 3, -7), at(0, 0, 0)},
		1:  nil,
		2:  {at(2, 3, 5), at(2, 1, 9)},
		3:  nil,
	} {
		if got := Of(l, house); !slices.Equal(got, want) {
			t.Errorf("Of(%v, %d) is %v, not %v", l, house, got, want)
		}
	}
	if got := Of(nil, 0); len(got) != 0 {
		t.Errorf("of no parts comes %v", got)
	}
}

func TestHouses(t *testing.T) {
	for _, c := range []struct {
		l    []api.Part
		want []int
	}{
		{nil, nil},
		{[]api.Part{}, nil},
		{[]api.Part{at(1, 0, 1)}, []int{1}},
		{[]api.Part{at(2, 0, 1), at(1, 0, 1), at(0, 0, 1)}, []int{0, 1, 2}},
		{[]api.Part{at(2, 3, 5), at(0, 3, -7), at(2, 1, 9)}, []int{0, 2}},
		{[]api.Part{at(1, 0, 1), at(1, 1, 1), at(1, 2, 1), at(1, 3, 1)}, []int{1}},
	} {
		if got := Houses(c.l); !slices.Equal(got, c.want) {
			t.Errorf("Houses(%v) is %v, not %v", c.l, got, c.want)
		}
	}
}

func TestFits(t *testing.T) {
	const far = 1 << 40
	for _, c := range []struct {
		name string
		sums [4]int
		l    []api.Part
		want api.Errno
	}{
		{"nothing to do", [4]int{}, nil, api.OK},
		{"nothing to do, whatever the sums", [4]int{-1, -1, api.MaxSum + 1, far}, []api.Part{}, api.OK},
		{"five more", [4]int{}, []api.Part{at(2, 0, 5)}, api.OK},
		{"two less than nothing", [4]int{}, []api.Part{at(0, 0, -2)}, api.ErrLess},
		{"down to nothing", [4]int{0, 7, 0, 0}, []api.Part{at(1, 1, -7)}, api.OK},
		{"one less than nothing", [4]int{9, 7, 9, 9}, []api.Part{at(1, 1, -8)}, api.ErrLess},
		{"up to the most", [4]int{0, 0, 7, 0}, []api.Part{at(1, 2, api.MaxSum-7)}, api.OK},
		{"one more than the most", [4]int{0, 0, 7, 0}, []api.Part{at(1, 2, api.MaxSum-6)}, api.ErrMuch},
		{"from the most to nothing", [4]int{0, 0, 0, api.MaxSum}, []api.Part{at(1, 3, -api.MaxSum)}, api.OK},
		{"no more, where it is too little", [4]int{-1}, []api.Part{at(0, 0, 0)}, api.ErrLess},
		{"no more, where it is too much", [4]int{api.MaxSum + 1}, []api.Part{at(0, 0, 0)}, api.ErrMuch},
		{"back to the most", [4]int{api.MaxSum + 1}, []api.Part{at(0, 0, -1)}, api.OK},
		{"back to nothing", [4]int{-1}, []api.Part{at(0, 0, 1)}, api.OK},
		{"far below", [4]int{-far}, []api.Part{at(0, 0, api.MaxSum)}, api.ErrLess},
		{"far above", [4]int{far}, []api.Part{at(0, 0, -api.MaxSum)}, api.ErrMuch},
		{"the second one is too little", [4]int{}, []api.Part{at(0, 0, 1), at(0, 1, -1)}, api.ErrLess},
		{"too little first", [4]int{}, []api.Part{at(0, 0, -1), at(0, 1, 1), at(0, 2, -1)}, api.ErrLess},
		{"too much ahead of too little", [4]int{1}, []api.Part{at(0, 0, api.MaxSum), at(0, 1, -1)}, api.ErrMuch},
		{"too little ahead of too much", [4]int{1}, []api.Part{at(0, 1, -1), at(0, 0, api.MaxSum)}, api.ErrLess},
		{"others' sums mean nothing", [4]int{-5, 3, far, -far}, []api.Part{at(0, 1, -3)}, api.OK},
	} {
		if got := Fits(c.sums, c.l); got != c.want {
			t.Errorf("%s: Fits(%v, %v) is %d, not %d", c.name, c.sums, c.l, got, c.want)
		}
	}
}

func TestDo(t *testing.T) {
	for _, c := range []struct {
		sums [4]int
		l    []api.Part
		want [4]int
	}{
		{[4]int{1, 2, 3, 4}, nil, [4]int{1, 2, 3, 4}},
		{[4]int{1, 2, 3, 4}, []api.Part{}, [4]int{1, 2, 3, 4}},
		{[4]int{1, 2, 3, 4}, []api.Part{at(1, 3, 5), at(1, 0, -1)}, [4]int{0, 2, 3, 9}},
		{[4]int{1, 2, 3, 4}, []api.Part{at(2, 0, 1), at(2, 1, 1), at(2, 2, 1), at(2, 3, 1)}, [4]int{2, 3, 4, 5}},
		{[4]int{}, []api.Part{at(0, 2, -7)}, [4]int{0, 0, -7, 0}},
		{[4]int{0, api.MaxSum}, []api.Part{at(0, 1, api.MaxSum)}, [4]int{0, 2 * api.MaxSum}},
		{[4]int{-1 << 40, 1 << 40}, []api.Part{at(0, 0, -api.MaxSum), at(0, 1, api.MaxSum)}, [4]int{-1<<40 - api.MaxSum, 1<<40 + api.MaxSum}},
	} {
		if got := Do(c.sums, c.l); got != c.want {
			t.Errorf("Do(%v, %v) is %v, not %v", c.sums, c.l, got, c.want)
		}
	}
}

// TestDoneBack: what is done, and then done the other way round, is as it was.
func TestDoneBack(t *testing.T) {
	sums := [4]int{5, 0, api.MaxSum, 9}
	l := []api.Part{at(1, 0, 8), at(1, 3, -9), at(1, 2, -api.MaxSum), at(1, 1, api.MaxSum)}
	back := slices.Clone(l)
	for i := range back {
		back[i].N = -back[i].N
	}
	if got := Do(Do(sums, l), back); got != sums {
		t.Errorf("%v comes, not %v", got, sums)
	}
}

// TestOnlyRead: neither the list that is handed in nor what is behind it changes, and nothing of it is in the answers.
func TestOnlyRead(t *testing.T) {
	room := []api.Part{at(2, 3, 5), at(0, 3, -7), at(2, 1, 9), at(9, 9, 9), at(8, 8, 8)}
	kept := slices.Clone(room)
	l := room[:3]
	Wrong(l, 3)
	Fits([4]int{}, l)
	Do([4]int{}, l)
	own, houses := Of(l, 2), Houses(l)
	all := own[:cap(own)]
	for i := range all {
		all[i] = at(7, 7, 7)
	}
	if !slices.Equal(room, kept) {
		t.Errorf("what was handed in is %v now, not %v", room, kept)
	}
	own = Of(l, 2)
	for i := range room {
		room[i] = at(1, 1, 1)
	}
	if !slices.Equal(own, []api.Part{at(2, 3, 5), at(2, 1, 9)}) || !slices.Equal(houses, []int{0, 2}) {
		t.Errorf("what was answered is %v and %v now", own, houses)
	}
}

// TestNoPanic: parts that are not right are nobody's promise, but no call panics over them.
func TestNoPanic(t *testing.T) {
	wild := []api.Part{at(-1, -1, 1), at(3, 4, 1), at(math.MaxInt, math.MaxInt, math.MaxInt), at(math.MinInt, math.MinInt, math.MinInt), at(0, 1, 5), at(0, 1, 5)}
	for _, n := range []int{math.MinInt, -1, 0, 1, 3, 4, math.MaxInt} {
		for i := range wild {
			Wrong(wild[i:], n)
			Wrong(wild[i:i+1], n)
			Of(wild[i:], n)
		}
	}
	Houses(wild)
	Fits([4]int{math.MaxInt, math.MaxInt, math.MinInt, math.MinInt}, wild)
	Do([4]int{math.MaxInt, math.MaxInt, math.MinInt, math.MinInt}, wild)
}
