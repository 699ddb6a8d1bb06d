package look

import (
	"fmt"
	"math"
	"slices"
	"testing"

	"allornone/api"
	"allornone/log"
	"allornone/net"
	"allornone/part"
	"allornone/world"
)

const most = api.MaxSum

// at is a part, written short; so are records, deeds and steps below.
func at(house, key, n int) api.Part { return api.Part{House: house, Key: key, N: n} }

func parts(l ...api.Part) []api.Part { return l }

func rec(kind, deed int, l ...api.Part) api.Rec { return api.Rec{Kind: kind, Deed: deed, Parts: l} }

func commit(deed int, l ...api.Part) api.Rec { return rec(api.RecCommit, deed, l...) }

func does(kind, n int) api.Step { return api.Step{Kind: kind, N: n} }

func begins(l ...api.Part) api.Step { return api.Step{Kind: api.StepBegin, Parts: l} }

func comes(n int) api.Step { return does(api.StepCome, n) }

func loses(n int) api.Step { return does(api.StepLose, n) }

func falls(n int) api.Step { return does(api.StepFall, n) }

func ticks(n int) api.Step { return does(api.StepTick, n) }

func quits() api.Step { return does(api.StepQuit, 0) }

// told is how a value is told; nil and empty lists are told alike.
func told(x ...any) string { return fmt.Sprintf("%+v", x) }

// made is what comes of a new world that takes these steps, of which none may have an error.
func made(t *testing.T, houses int, l ...api.Step) api.World {
	t.Helper()
	w, err := world.New(houses)
	if err != api.OK {
		t.Fatalf("New(%d) is %d", houses, err)
	}
	return goes(t, w, l...)
}

// goes is what comes of a world that takes these steps, of which none may have an error.
func goes(t *testing.T, w api.World, l ...api.Step) api.World {
	t.Helper()
	for _, s := range l {
		now, err := world.Do(w, s)
		if err != api.OK {
			t.Fatalf("Do(%+v, %+v) is %d", w, s, err)
		}
		w = now
	}
	return w
}

// calm has message 0 come as long as there is one.
func calm(t *testing.T, w api.World) api.World {
	t.Helper()
	for len(w.Net) > 0 {
		w = goes(t, w, comes(0))
	}
	return w
}

// some is a world of three houses: 64 is done, and ended; 65 is decided, and done at house 1 alone; house 2 is ready for 66.
func some(t *testing.T) api.World {
	t.Helper()
	w := calm(t, made(t, 3, begins(at(1, 0, 2), at(0, 0, 7))))
	w = goes(t, w, begins(at(2, 1, 6), at(0, 3, 5), at(1, 1, 0)), comes(0), comes(0), comes(0), comes(0), comes(0), comes(0))
	return goes(t, w, comes(1), begins(at(2, 2, 2), at(1, 2, 1)), comes(4))
}

func TestSome(t *testing.T) {
	w := some(t)
	if got, want := told(w.Head.Log), told([]api.Rec{rec(api.RecBoot, 0), commit(64, at(1, 0, 2), at(0, 0, 7)), rec(api.RecEnd, 64), commit(65, at(2, 1, 6), at(0, 3, 5), at(1, 1, 0))}); got != want {
		t.Errorf("the head's log is %s, not %s", got, want)
	}
	for n, want := range []string{"[[65] [64]]", "[[] [64 65]]", "[[65 66] []]"} {
		var ready []int
		for _, d := range w.Houses[n].Ready {
			ready = append(ready, d.Deed)
		}
		if got := told(ready, w.Houses[n].Done); got != want {
			t.Errorf("house %d is ready, and done: %s, not %s", n, got, want)
		}
	}
}

// kept is a world as a log of its head and the houses make it: each house has these sums, and did these deeds.
func kept(l []api.Rec, houses ...api.House) api.World {
	return api.World{Head: log.Head(l), Houses: houses}
}

func did(sums [4]int, deeds ...int) api.House { return api.House{Sums: sums, Done: deeds} }

func isReady(deeds ...int) api.House {
	var h api.House
	for _, deed := range deeds {
		h.Ready = append(h.Ready, api.Ready{Deed: deed, Parts: parts(at(0, 0, 1))})
	}
	return h
}

func recs(l ...api.Rec) []api.Rec { return l }

func TestSums(t *testing.T) {
	odd := some(t)
	odd.Houses[1].Sums = [4]int{-1, math.MaxInt, math.MinInt, most + 1}
	for _, c := range []struct {
		name string
		w    api.World
		want [][4]int
	}{
		{"one new house", made(t, 1), [][4]int{{}}},
		{"two", made(t, 2), [][4]int{{}, {}}},
		{"three", made(t, 3), [][4]int{{}, {}, {}}},
		{"some", some(t), [][4]int{{7, 0, 0, 0}, {2, 0, 0, 0}, {}}},
		{"most", calm(t, made(t, 2, begins(at(1, 0, most), at(1, 3, most), at(0, 2, 1)))), [][4]int{{0, 0, 1, 0}, {most, 0, 0, most}}},
		{"others", odd, [][4]int{{7, 0, 0, 0}, {-1, math.MaxInt, math.MinInt, most + 1}, {}}},
	} {
		if got := Sums(c.w); !slices.Equal(got, c.want) {
			t.Errorf("%s: Sums is %v, not %v", c.name, got, c.want)
		}
	}
}

// TestDeed: what is seen of a deed from its beginning to its end.
func TestDeed(t *testing.T) {
	w := made(t, 3, begins(at(2, 1, 3), at(0, 0, 5)))
	none := [][4]int{{}, {}, {}}
	one := [][4]int{{5}, {}, {}}
	both := [][4]int{{5}, {}, {0, 3}}
	is, nobody := []int{64}, []int{}
	for i, c := range []struct{ name, want string }{
		{"begun", told(none, nobody, true, true)},
		{"house 0 is ready", told(none, is, true, true)},
		{"house 2 is ready", told(none, is, true, true)},
		{"house 0 is heard", told(none, is, true, true)},
		{"decided", told(none, is, true, false)},
		{"house 0 did it", told(one, is, true, false)},
		{"house 2 did it", told(both, nobody, true, true)},
		{"house 0 is heard again", told(both, nobody, true, true)},
		{"ended", told(both, nobody, true, true)},
	} {
		if i > 0 {
			w = goes(t, w, comes(0))
		}
		if got := seen(w); got != c.want {
			t.Errorf("%s: %s is seen, not %s", c.name, got, c.want)
		}
	}
}

// TestDeedGivenUp: what is not decided is open as long as a house is ready for it, and nothing wrong is seen of it.
func TestDeedGivenUp(t *testing.T) {
	no := made(t, 2, begins(at(0, 0, 5), at(1, 0, -1)))
	for _, c := range []struct {
		name string
		w    api.World
		want []int
	}{
		{"one house is ready", goes(t, no, comes(0)), []int{64}},
		{"the other one is not", goes(t, no, comes(0), comes(0)), []int{64}},
		{"the head knows", goes(t, no, comes(0), comes(0), comes(0), comes(0)), []int{64}},
		{"the house knows", goes(t, no, comes(0), comes(0), comes(0), comes(0), comes(0)), nil},
		{"given up", goes(t, no, comes(0), quits()), []int{64}},
		{"given up, and dropped", goes(t, no, comes(0), quits(), comes(2)), nil},
		{"given up, and nobody was ready", goes(t, no, quits()), nil},
		{"the head fell", goes(t, no, comes(0), falls(api.MaxHouses)), []int{64}},
		{"a house fell", goes(t, no, comes(0), falls(0)), []int{64}},
	} {
		if got := Open(c.w); !slices.Equal(got, c.want) || !Whole(c.w) || !Even(c.w) {
			t.Errorf("%s: Open is %v, not %v, Whole %t, Even %t", c.name, got, c.want, Whole(c.w), Even(c.w))
		}
	}
}

func TestOpen(t *testing.T) {
	two := commit(64, at(1, 0, 2), at(0, 0, 7))
	for _, c := range []struct {
		name string
		w    api.World
		want []int
	}{
		{"a new world", made(t, 3), nil},
		{"some", some(t), []int{65, 66}},
		{"rising, each once", kept(nil, isReady(70, 3, 64), isReady(64, 2), isReady(3, 70)), []int{2, 3, 64, 70}},
		{"ready, and decided", kept(recs(two, commit(63, at(0, 0, 1))), isReady(64, 65), isReady(64)), []int{63, 64, 65}},
		{"deed 0", kept(nil, isReady(0)), []int{0}},
		{"not Done anywhere", kept(recs(two), did([4]int{}), did([4]int{})), []int{64}},
		{"not Done at the first one", kept(recs(two), did([4]int{}), did([4]int{}, 64)), []int{64}},
		{"not Done at the last one", kept(recs(two), did([4]int{}, 64), did([4]int{})), []int{64}},
		{"Done at both", kept(recs(two), did([4]int{}, 64), did([4]int{}, 64)), nil},
		{"Done among others", kept(recs(two), did([4]int{}, 70, 64, 3), did([4]int{}, 3, 64)), nil},
		{"Done at houses that are none of its", kept(recs(commit(64, at(1, 0, 2))), did([4]int{}, 64), did([4]int{}), did([4]int{}, 64)), []int{64}},
		{"Done at its one house", kept(recs(commit(64, at(1, 0, 2))), did([4]int{}), did([4]int{}, 64), did([4]int{})), nil},
		{"ended, and not Done", kept(recs(two, rec(api.RecEnd, 64)), did([4]int{}, 64), did([4]int{})), []int{64}},
		{"Done, and not decided", kept(recs(two), did([4]int{}, 64, 65), did([4]int{}, 64, 66)), nil},
		{"ready for what is Done", kept(recs(two), isReady(64), did([4]int{}, 64)), []int{64}},
		{"other records", kept(recs(rec(api.RecReady, 64, two.Parts...), rec(api.RecDone, 65, two.Parts...), rec(api.RecDrop, 66, two.Parts...), rec(0, 67, two.Parts...), rec(7, 68, two.Parts...)), did([4]int{}), did([4]int{})), nil},
		{"decided without parts", kept(recs(commit(64)), did([4]int{})), nil},
		{"of a house that is not there", kept(recs(commit(64, at(0, 0, 1), at(2, 0, 1))), did([4]int{}, 64), did([4]int{}, 64)), []int{64}},
	} {
		if got := Open(c.w); !slices.Equal(got, c.want) {
			t.Errorf("%s: Open(%+v) is %v, not %v", c.name, c.w, got, c.want)
		}
	}
}

// TestOpenLog: that a deed is decided stands in the head's log, and nowhere else.
func TestOpenLog(t *testing.T) {
	w := some(t)
	w.Houses = []api.House{did([4]int{}), did([4]int{}), did([4]int{})}
	if got := Open(w); !slices.Equal(got, []int{64, 65}) {
		t.Errorf("of the log Open is %v", got)
	}
	w.Head.Open = nil
	if got := Open(w); !slices.Equal(got, []int{64, 65}) {
		t.Errorf("with nothing open Open is %v", got)
	}
	w.Head = some(t).Head
	w.Head.Log = nil
	if got := Open(w); len(got) > 0 {
		t.Errorf("without a log Open is %v", got)
	}
}

func TestWhole(t *testing.T) {
	l := recs(rec(api.RecBoot, 0), commit(64, at(1, 0, 2), at(0, 0, 7)), commit(65, at(0, 0, -3), at(0, 1, 1)), rec(api.RecEnd, 64), commit(66, at(1, 3, 0)))
	for _, c := range []struct {
		name string
		w    api.World
		want bool
	}{
		{"a new world", made(t, 1), true},
		{"some", some(t), true},
		{"nothing is Done", kept(l, did([4]int{}), did([4]int{})), true},
		{"all is Done", kept(l, did([4]int{4, 1}, 64, 65), did([4]int{2}, 64, 66)), true},
		{"in another turn", kept(l, did([4]int{4, 1}, 65, 64), did([4]int{2}, 66, 64)), true},
		{"at one house alone", kept(l, did([4]int{7}, 64), did([4]int{})), true},
		{"below nothing", kept(l, did([4]int{-3, 1}, 65), did([4]int{2}, 64)), true},
		{"nobody is at it, and all are ready", kept(l, isReady(64, 65), isReady(70)), true},
		{"a sum is one more", kept(l, did([4]int{7, 0, 0, 1}, 64), did([4]int{2}, 64)), false},
		{"a sum is one less", kept(l, did([4]int{7}, 64), did([4]int{1}, 64)), false},
		{"sums of nothing", kept(l, did([4]int{}), did([4]int{0, 0, 1})), false},
		{"no sums of what is Done", kept(l, did([4]int{}, 64), did([4]int{})), false},
		{"sums of one house at another one", kept(l, did([4]int{2}, 64), did([4]int{7}, 64)), false},
		{"sums of all houses", kept(l, did([4]int{9}, 64), did([4]int{})), false},
		{"not decided", kept(l, did([4]int{7}, 64, 67), did([4]int{})), false},
		{"not decided, ahead", kept(l, did([4]int{7}, 67, 64), did([4]int{})), false},
		{"not decided, at the last house", kept(l, did([4]int{7}, 64), did([4]int{}, 900)), false},
		{"no part there", kept(l, did([4]int{7}, 64), did([4]int{2}, 64, 65)), false},
		{"no part there, where there are three", kept(l, did([4]int{7}, 64), did([4]int{2}, 64), did([4]int{}, 64)), false},
		{"nothing more, and no part there", kept(l, did([4]int{}, 66), did([4]int{})), false},
		{"nothing more, and a part there", kept(l, did([4]int{}), did([4]int{}, 66)), true},
		{"twice, and its parts once", kept(l, did([4]int{7}, 64, 64), did([4]int{})), false},
		{"twice, and its parts twice", kept(l, did([4]int{14}, 64, 64), did([4]int{})), false},
		{"twice, and nothing more", kept(l, did([4]int{}), did([4]int{2}, 66, 64, 66)), false},
		{"decided without parts", kept(recs(commit(64)), did([4]int{}, 64)), false},
		{"another record", kept(recs(rec(api.RecReady, 64, at(0, 0, 7)), rec(api.RecEnd, 64, at(0, 0, 7))), did([4]int{7}, 64)), false},
	} {
		if got := Whole(c.w); got != c.want {
			t.Errorf("%s: Whole(%+v) is %t", c.name, c.w, got)
		}
	}
}

func TestEven(t *testing.T) {
	l := recs(rec(api.RecBoot, 0), commit(64, at(1, 0, 2), at(0, 0, 7)), commit(65, at(0, 0, -3), at(0, 1, 1)), rec(api.RecEnd, 64))
	give, take := commit(64, at(0, 0, 5)), commit(65, at(0, 0, -5))
	for _, c := range []struct {
		name string
		w    api.World
		want bool
	}{
		{"a new world", made(t, 2), true},
		{"some", some(t), false},
		{"all is done", kept(l, did([4]int{4, 1}, 64, 65), did([4]int{2}, 64)), true},
		{"whatever is Done", kept(l, did([4]int{4, 1}, 9, 9), did([4]int{2})), true},
		{"with one more house", kept(l, did([4]int{4, 1}), did([4]int{2}), did([4]int{})), true},
		{"nothing is done", kept(l, did([4]int{}), did([4]int{})), false},
		{"one is not done", kept(l, did([4]int{7}, 64), did([4]int{2}, 64)), false},
		{"one is not done at one house", kept(l, did([4]int{4, 1}, 64, 65), did([4]int{})), false},
		{"houses are turned", kept(l, did([4]int{2}), did([4]int{4, 1})), false},
		{"one more", kept(l, did([4]int{4, 1}), did([4]int{2, 0, 0, 1})), false},
		{"one less", kept(l, did([4]int{4, 0}), did([4]int{2})), false},
		{"sums of nothing", kept(nil, did([4]int{1}), did([4]int{})), false},
		{"in turn", kept(recs(give, take), did([4]int{})), true},
		{"in the other turn", kept(recs(take, give), did([4]int{})), false},
		{"in the other turn, and one is not done", kept(recs(take, give), did([4]int{5})), false},
		{"less than nothing", kept(recs(take), did([4]int{})), false},
		{"less than nothing, done", kept(recs(take), did([4]int{-5})), false},
		{"too much, and then fitting", kept(recs(commit(64, at(0, 2, most)), give, commit(66, at(0, 2, 1)), take), did([4]int{0, 0, most})), false},
		{"most", kept(recs(commit(64, at(0, 2, most)), give, take), did([4]int{0, 0, most})), true},
		{"another record", kept(recs(rec(api.RecReady, 64, at(0, 0, 7)), rec(api.RecEnd, 64, at(0, 0, 7))), did([4]int{}, 64)), true},
	} {
		if got := Even(c.w); got != c.want {
			t.Errorf("%s: Even(%+v) is %t", c.name, c.w, got)
		}
	}
}

// chances answers numbers below n, the same ones each time.
func chances(seed uint64) func(n int) int {
	return func(n int) int {
		seed = seed*6364136223846793005 + 1442695040888963407
		return int(seed>>33) % n
	}
}

// anyStep is a step that mostly has no error.
func anyStep(chance func(n int) int, w api.World) api.Step {
	there := func() int { return chance(len(w.Net) + 1) }
	switch c := chance(40); {
	case c < 5:
		l := make([]api.Part, 1+chance(3))
		for i := range l {
			l[i] = at(chance(len(w.Houses)), chance(3), chance(9)-3)
		}
		return begins(l...)
	case c < 28:
		return comes(there())
	case c < 30:
		return loses(there())
	case c < 32:
		return does(api.StepTwice, there())
	case c < 34:
		return falls(chance(4))
	case c < 39:
		return ticks(chance(4))
	}
	return quits()
}

// anyWay looks at each world of many chance ways.
func anyWay(t *testing.T, ways, length int, look func(w api.World, chance func(n int) int)) {
	t.Helper()
	for i := range ways {
		chance := chances(uint64(i))
		w := made(t, 1+i%3)
		for range length {
			w, _ = world.Do(w, anyStep(chance, w))
			look(w, chance)
		}
	}
}

// TestNothingWrong: whatever worlds go through, nothing wrong is ever seen; they are even where nothing is open that is decided.
func TestNothingWrong(t *testing.T) {
	seen := map[string]int{}
	anyWay(t, 60, 300, func(w api.World, _ func(int) int) {
		open := Open(w)
		waits := slices.ContainsFunc(log.Decided(w.Head.Log), func(d api.Ready) bool { return slices.Contains(open, d.Deed) })
		even := Even(w)
		seen[told(waits, even)]++
		if !Whole(w) || !waits && !even {
			t.Fatalf("of %+v Open is %v, Whole %t, Even %t", w, open, Whole(w), even)
		}
	})
	for _, c := range []string{told(false, true), told(true, false)} {
		if seen[c] < 1000 {
			t.Errorf("the ways come by %s %d times", c, seen[c])
		}
	}
}

// TestWrongIsSeen: a sum that is another one, and a deed too many, are seen, wherever.
func TestWrongIsSeen(t *testing.T) {
	anyWay(t, 30, 60, func(w api.World, _ func(int) int) {
		for n := range w.Houses {
			for key := range api.MaxKeys {
				for _, more := range []int{-1, 1, most} {
					x := world.Own(w)
					x.Houses[n].Sums[key] += more
					if Whole(x) || Even(w) && Even(x) {
						t.Fatalf("%d more at house %d, key %d, is not seen: %+v", more, n, key, w)
					}
				}
			}
			for _, deed := range append([]int{-1, 0, 63, 900}, w.Houses[n].Done...) {
				x := world.Own(w)
				x.Houses[n].Done = append(x.Houses[n].Done, deed)
				if Whole(x) {
					t.Fatalf("%d done, too, at house %d, is not seen: %+v", deed, n, w)
				}
			}
			for i, deed := range w.Houses[n].Done {
				x := world.Own(w)
				x.Houses[n].Done = slices.Delete(x.Houses[n].Done, i, i+1)
				if !slices.Contains(Open(x), deed) {
					t.Fatalf("%d not done, at house %d, is not seen: %+v", deed, n, w)
				}
			}
		}
	})
}

// changed is a world of which Sums, Done, or the head may be others.
func changed(w api.World, other api.Head, chance func(n int) int) api.World {
	w = world.Own(w)
	n := chance(len(w.Houses))
	h, x := &w.Houses[n], &w.Head
	switch chance(8) {
	case 0:
		h.Sums[chance(4)] += chance(5) - 2
	case 1:
		h.Done = append(h.Done, 62+chance(20))
	case 2:
		h.Done = h.Done[:chance(len(h.Done)+1)]
	case 3:
		m := chance(len(w.Houses))
		h.Done, h.Sums = w.Houses[m].Done, w.Houses[m].Sums
	case 4:
		x.Log = x.Log[:chance(len(x.Log)+1)]
	case 5:
		x.Log = append(x.Log, commit(900+chance(2000), at(n, chance(4), chance(3)-1)))
	case 6:
		slices.Reverse(x.Log)
	case 7:
		*x = other
	}
	return w
}

// openOf, wholeOf and evenOf say again, another way, what must be seen.
func openOf(w api.World) []int {
	var out []int
	for deed := range 3000 {
		open := false
		for _, h := range w.Houses {
			for _, d := range h.Ready {
				open = open || d.Deed == deed
			}
		}
		for _, r := range w.Head.Log {
			for _, p := range r.Parts {
				there := p.House < len(w.Houses) && slices.Contains(w.Houses[p.House].Done, deed)
				open = open || r.Kind == api.RecCommit && r.Deed == deed && !there
			}
		}
		if open {
			out = append(out, deed)
		}
	}
	return out
}

func wholeOf(w api.World) bool {
	for n, h := range w.Houses {
		times, sums := map[int]int{}, [4]int{}
		for _, deed := range h.Done {
			times[deed]++
		}
		for _, r := range w.Head.Log {
			for i, p := range part.Of(r.Parts, n) {
				if r.Kind == api.RecCommit && times[r.Deed] > 0 {
					sums[p.Key] += p.N
					if i == 0 {
						times[r.Deed] += 100
					}
				}
			}
		}
		for _, many := range times {
			if many != 101 {
				return false
			}
		}
		if sums != h.Sums {
			return false
		}
	}
	return true
}

func evenOf(w api.World) bool {
	sums := make([][4]int, len(w.Houses))
	for _, r := range w.Head.Log {
		for _, p := range r.Parts {
			if r.Kind != api.RecCommit || p.House >= len(sums) {
				continue
			}
			sum := &sums[p.House][p.Key]
			if *sum += p.N; *sum < 0 || *sum > most {
				return false
			}
		}
	}
	for n, h := range w.Houses {
		if h.Sums != sums[n] {
			return false
		}
	}
	return true
}

// TestChanged: of worlds that are others in one or two places all is seen as it is.
func TestChanged(t *testing.T) {
	seen := map[string]int{}
	other := made(t, 3).Head
	anyWay(t, 45, 120, func(w api.World, chance func(int) int) {
		x := changed(w, other, chance)
		if chance(3) == 0 {
			x = changed(x, other, chance)
		}
		if chance(20) == 0 {
			other = w.Head
		}
		whole, even := Whole(x), Even(x)
		seen[told(whole, even)]++
		if got, want := Open(x), openOf(x); !slices.Equal(got, want) {
			t.Fatalf("Open(%+v) is %v, not %v", x, got, want)
		}
		if whole != wholeOf(x) || even != evenOf(x) {
			t.Fatalf("Whole(%+v) is %t, Even is %t", x, whole, even)
		}
	})
	for _, whole := range []bool{false, true} {
		for _, even := range []bool{false, true} {
			if seen[told(whole, even)] < 100 {
				t.Errorf("Whole %t, and Even %t, come %d times", whole, even, seen[told(whole, even)])
			}
		}
	}
}

// seen is all that is seen of a world.
func seen(w api.World) string { return told(Sums(w), Open(w), Whole(w), Even(w)) }

// TestWhatDoesNotCount: what is on its way, the houses' logs, the parts that they are ready with, and the head but for its log, do not count.
func TestWhatDoesNotCount(t *testing.T) {
	want := seen(some(t))
	w := some(t)
	w.Net = append(w.Net, []byte("zap"), nil)
	for n := range w.Houses {
		h := &w.Houses[n]
		h.Log = append(h.Log, rec(api.RecReady, 70, at(n, 0, 1)), rec(api.RecDone, 70))
		for i := range h.Ready {
			h.Ready[i].Parts = parts(at(n, 3, 1))
		}
	}
	w.Head.Boot, w.Head.Next = 9, 9
	w.Head.Open = []api.Open{{Deed: 90, Parts: parts(at(0, 0, 1)), Decided: true}}
	if got := seen(w); got != want {
		t.Errorf("of a world whose rest is another %s is seen, not %s", got, want)
	}
}

// room answers a list with the same in it, and more behind it.
func room[T any](l []T, more ...T) []T {
	return append(slices.Clone(l), more...)[:len(l)]
}

// crowded is a world with room behind its lists that holds something else: it must neither be looked at nor be changed.
func crowded(w api.World) api.World {
	w = world.Own(w)
	for i, r := range w.Head.Log {
		w.Head.Log[i].Parts = room(r.Parts, at(0, 2, 9), at(1, 2, 9), at(2, 2, 9))
	}
	w.Head.Log = room(w.Head.Log, commit(68, at(0, 0, 9)), commit(69, at(1, 0, 9)))
	for n, h := range w.Houses {
		for i, d := range h.Ready {
			h.Ready[i].Parts = room(d.Parts, at(n, 0, 9))
		}
		w.Houses[n].Ready = room(h.Ready, api.Ready{Deed: 3}, api.Ready{Deed: 4})
		w.Houses[n].Done = room(h.Done, 65, 66, 64)
	}
	w.Houses = room(w.Houses, api.House{Sums: [4]int{9, 9, 9, 9}, Done: []int{64}})
	w.Net = net.Own(w.Net)
	return w
}

// roomy is how a world is told with the room behind its lists.
func roomy(w api.World) string {
	out := told(w.Net, w.Head.Open, w.Head.Log[:cap(w.Head.Log)], w.Houses[:cap(w.Houses)])
	for _, r := range w.Head.Log {
		out += told(r.Parts[:cap(r.Parts)])
	}
	for _, h := range w.Houses {
		out += told(h.Ready[:cap(h.Ready)], h.Done[:cap(h.Done)])
		for _, d := range h.Ready {
			out += told(d.Parts[:cap(d.Parts)])
		}
	}
	return out
}

// worlds are worlds in which something is done, decided, or ready, some of them such as none become.
func worlds(t *testing.T) []api.World {
	t.Helper()
	odd, turned := some(t), some(t)
	odd.Houses[0].Done, odd.Houses[1].Done = []int{70, 64, 64}, []int{65, 3}
	slices.Reverse(turned.Houses)
	slices.Reverse(turned.Head.Log)
	slices.Reverse(turned.Houses[0].Ready)
	return []api.World{some(t), odd, turned, goes(t, some(t), ticks(0), comes(0)), calm(t, some(t)), made(t, 2)}
}

func TestOnlyRead(t *testing.T) {
	for _, clean := range worlds(t) {
		w := crowded(clean)
		before := roomy(w)
		if got, want := seen(w), seen(clean); got != want {
			t.Errorf("with room behind the lists of %+v %s is seen, not %s", clean, got, want)
		}
		sums, open := Sums(w), Open(w)
		for i := range sums[:cap(sums)] {
			sums[:cap(sums)][i] = [4]int{5, 5, 5, 5}
		}
		for i := range open[:cap(open)] {
			open[:cap(open)][i] = 5
		}
		if got := roomy(w); got != before {
			t.Errorf("behind the calls the world is %s, not %s", got, before)
		}
	}
}

// TestNothingKept: what is handed in may be changed behind the call, and answers stay as they are; the next call sees the change.
func TestNothingKept(t *testing.T) {
	w := some(t)
	sums, open := Sums(w), Open(w)
	before := told(sums, open)
	for n := range w.Houses {
		w.Houses[n].Sums = [4]int{7, 7, 7, 7}
		for i := range w.Houses[n].Ready {
			w.Houses[n].Ready[i].Deed = 77
		}
		for i := range w.Houses[n].Done {
			w.Houses[n].Done[i] = 78
		}
	}
	if got := told(sums, open); got != before {
		t.Errorf("the answers are %s now, not %s", got, before)
	}
	if got, want := seen(w), "[[[7 7 7 7] [7 7 7 7] [7 7 7 7]] [64 65 77] false false]"; got != want {
		t.Errorf("of the changed world %s is seen, not %s", got, want)
	}
}

// TestSameAgain: what is seen hangs on the world, and on nothing else; nil lists are as good as empty ones.
func TestSameAgain(t *testing.T) {
	for _, w := range worlds(t) {
		want := seen(w)
		for range 20 {
			if got := seen(world.Own(w)); got != want {
				t.Fatalf("of %+v %s is seen, and then %s", w, want, got)
			}
		}
	}
	bare := kept(nil, api.House{}, api.House{})
	empty := kept(recs(), api.House{Ready: []api.Ready{}, Done: []int{}}, api.House{Log: recs(), Done: []int{}})
	if a, b := seen(bare), seen(empty); a != b || a != "[[[0 0 0 0] [0 0 0 0]] [] true true]" {
		t.Errorf("without lists %s is seen, with empty ones %s", a, b)
	}
}

// TestLong: every call ends, also where very many deeds are decided and done.
func TestLong(t *testing.T) {
	const many = 1 << 18
	w := made(t, 3)
	for deed := range many {
		w.Head.Log = append(w.Head.Log, commit(deed, at(1, 0, 1), at(2, 3, 1)))
		w.Houses[1].Done = append(w.Houses[1].Done, deed)
		w.Houses[2].Done = append(w.Houses[2].Done, many-1-deed)
	}
	w.Houses[1].Sums, w.Houses[2].Sums = [4]int{many}, [4]int{0, 0, 0, many}
	if got, want := seen(w), told([][4]int{{}, {many}, {0, 0, 0, many}}, []int{}, true, true); got != want {
		t.Errorf("%s is seen, not %s", got, want)
	}
	w.Houses[2].Done = w.Houses[2].Done[many/2:]
	if open := Open(w); len(open) != many/2 || open[0] != many/2 || Whole(w) || !Even(w) {
		t.Errorf("%d are open, Whole %t, Even %t", len(open), Whole(w), Even(w))
	}
}

// TestNoPanic: of worlds with wrong parts, or other numbers of houses, nothing is promised, but no call panics over them.
func TestNoPanic(t *testing.T) {
	edges := []int{math.MinInt, -1, 0, 1, 2, 3, 4, 64, math.MaxInt}
	var wild []api.Part
	for _, n := range edges {
		wild = append(wild, at(n, n, n), at(0, n, n), at(n, 0, math.MaxInt), at(2, 1, n))
	}
	for houses := range 6 {
		w := api.World{Houses: make([]api.House, houses)}
		for _, deed := range edges {
			w.Head.Log = append(w.Head.Log, commit(deed, wild...), rec(deed, deed), commit(deed), commit(deed, wild...))
			for n := range w.Houses {
				w.Houses[n].Ready = append(w.Houses[n].Ready, api.Ready{Deed: deed, Parts: wild})
				w.Houses[n].Done = append(w.Houses[n].Done, deed)
				w.Houses[n].Sums = [4]int{deed, deed, deed, deed}
			}
			seen(w)
		}
		w.Head = api.Head{}
		seen(w)
	}
	seen(api.World{})
}
