package log

import (
	"fmt"
	"math"
	"slices"
	"testing"

	"allornone/api"
	"allornone/part"
)

// at is a part, written short; so are the records below.
func at(house, key, n int) api.Part { return api.Part{House: house, Key: key, N: n} }

func parts(l ...api.Part) []api.Part { return l }

func rec(kind, deed int, l ...api.Part) api.Rec { return api.Rec{Kind: kind, Deed: deed, Parts: l} }

func ready(deed int, l ...api.Part) api.Rec { return rec(api.RecReady, deed, l...) }

func done(deed int) api.Rec { return rec(api.RecDone, deed) }

func drop(deed int) api.Rec { return rec(api.RecDrop, deed) }

func boot() api.Rec { return rec(api.RecBoot, 0) }

func commit(deed int, l ...api.Part) api.Rec { return rec(api.RecCommit, deed, l...) }

func end(deed int) api.Rec { return rec(api.RecEnd, deed) }

func recs(l ...api.Rec) []api.Rec { return l }

func of(deed int, l ...api.Part) api.Ready { return api.Ready{Deed: deed, Parts: l} }

func open(deed int, l ...api.Part) api.Open { return api.Open{Deed: deed, Parts: l, Decided: true} }

// told is how a value is told; nil and empty lists are told alike.
func told(x any) string { return fmt.Sprintf("%+v", x) }

var five, six = at(0, 0, 5), at(0, 1, 6)

// others are kinds that make nothing of a house, nor of a head.
var others = []int{math.MinInt, -1, 0, 7, 9, math.MaxInt}

func TestOwn(t *testing.T) {
	for _, l := range [][]api.Rec{
		nil,
		{},
		recs(boot()),
		recs(ready(64, five, six), done(64), drop(65), boot(), commit(66, at(2, 3, -1)), end(66)),
		recs(rec(9, 3, six), rec(api.RecDone, 4, five), rec(api.RecBoot, 7, five)),
	} {
		if got := Own(l); told(got) != told(l) {
			t.Errorf("Own(%v) is %v", l, got)
		}
	}
}

func TestHouse(t *testing.T) {
	const most = api.MaxSum
	for _, c := range []struct {
		name  string
		l     []api.Rec
		sums  [4]int
		ready []api.Ready
		done  []int
	}{
		{"nothing", nil, [4]int{}, nil, nil},
		{"empty", []api.Rec{}, [4]int{}, nil, nil},
		{"ready", recs(ready(64, five, six)), [4]int{}, []api.Ready{of(64, five, six)}, nil},
		{"ready, number 0", recs(ready(0, five)), [4]int{}, []api.Ready{of(0, five)}, nil},
		{"ready, and done", recs(ready(64, five), done(64)), [4]int{5}, nil, []int{64}},
		{"all its parts are done", recs(ready(64, five, six), done(64)), [4]int{5, 6}, nil, []int{64}},
		{"done twice is once", recs(ready(64, five), done(64), done(64)), [4]int{5}, nil, []int{64}},
		{"done, and never ready", recs(done(64)), [4]int{}, nil, nil},
		{"done, and ready only then", recs(done(64), ready(64, five)), [4]int{}, []api.Ready{of(64, five)}, nil},
		{"another one is done", recs(ready(64, five), done(65)), [4]int{}, []api.Ready{of(64, five)}, nil},
		{"dropped", recs(ready(64, five), drop(64)), [4]int{}, nil, nil},
		{"dropped twice", recs(ready(64, five), drop(64), drop(64)), [4]int{}, nil, nil},
		{"dropped, and never ready", recs(drop(64)), [4]int{}, nil, nil},
		{"another one is dropped", recs(ready(64, five), drop(65)), [4]int{}, []api.Ready{of(64, five)}, nil},
		{"dropped, then done", recs(ready(64, five), drop(64), done(64)), [4]int{}, nil, nil},
		{"done, then dropped", recs(ready(64, five), done(64), drop(64)), [4]int{5}, nil, []int{64}},
		{"ready twice: the first parts hold", recs(ready(64, five), ready(64, six)), [4]int{}, []api.Ready{of(64, five)}, nil},
		{"ready twice: the first parts are done", recs(ready(64, five), ready(64, six), done(64)), [4]int{5}, nil, []int{64}},
		{"ready twice: it stays in its place", recs(ready(64, five), ready(65, six), ready(64, five)), [4]int{}, []api.Ready{of(64, five), of(65, six)}, nil},
		{"ready again, behind a drop", recs(ready(64, five), ready(65, six), drop(64), ready(64, six)), [4]int{}, []api.Ready{of(65, six), of(64, six)}, nil},
		{"ready again, behind being done", recs(ready(64, five), done(64), ready(64, six)), [4]int{5}, []api.Ready{of(64, six)}, []int{64}},
		{"done again", recs(ready(64, five), done(64), ready(64, five, six), done(64)), [4]int{10, 6}, nil, []int{64, 64}},
		{"in turn, not by number", recs(ready(70, five), ready(64, six), ready(66, five)), [4]int{}, []api.Ready{of(70, five), of(64, six), of(66, five)}, nil},
		{"one between is done", recs(ready(70, five), ready(64, six), ready(66, five), done(64)), [4]int{0, 6}, []api.Ready{of(70, five), of(66, five)}, []int{64}},
		{"one between is dropped", recs(ready(70, five), ready(64, six), ready(66, five), drop(64)), [4]int{}, []api.Ready{of(70, five), of(66, five)}, nil},
		{"in the turn in which they are done", recs(ready(64, five), ready(65, six), ready(66, at(0, 3, 7)), done(66), done(64), done(65)), [4]int{5, 6, 0, 7}, nil, []int{66, 64, 65}},
		{"also where it does not fit", recs(ready(64, at(1, 2, -3)), done(64), ready(65, at(1, 3, most)), done(65), ready(66, at(1, 3, most)), done(66)), [4]int{0, 0, -3, 2 * most}, nil, []int{64, 65, 66}},
		{"whatever houses the parts name", recs(ready(64, at(0, 0, 1), at(1, 0, 20), at(2, 0, 300), at(2, 1, 4)), done(64)), [4]int{321, 4}, nil, []int{64}},
		{"the parts of what is done mean nothing", recs(ready(64, five), rec(api.RecDone, 64, six)), [4]int{5}, nil, []int{64}},
		{"the parts of what is dropped mean nothing", recs(ready(64, five), rec(api.RecDrop, 64, six)), [4]int{}, nil, nil},
		{"the head's records make nothing", recs(boot(), ready(64, five), commit(64, five, six), end(64), commit(65, six), done(65)), [4]int{}, []api.Ready{of(64, five)}, nil},
	} {
		want := api.House{Log: c.l, Sums: c.sums, Ready: c.ready, Done: c.done}
		if got := House(c.l); told(got) != told(want) {
			t.Errorf("%s: House(%v) is %+v, not %+v", c.name, c.l, got, want)
		}
	}
}

func TestHead(t *testing.T) {
	for _, c := range []struct {
		name string
		l    []api.Rec
		boot int
		open []api.Open
	}{
		{"nothing", nil, 0, nil},
		{"empty", []api.Rec{}, 0, nil},
		{"a boot", recs(boot()), 1, nil},
		{"boots", recs(boot(), boot(), boot()), 3, nil},
		{"a boot's deed and parts mean nothing", recs(rec(api.RecBoot, 64, five)), 1, nil},
		{"more boots than there may be", slices.Repeat(recs(boot()), api.MaxBoots+1), api.MaxBoots + 1, nil},
		{"decided", recs(commit(64, five, at(1, 0, -5))), 0, []api.Open{open(64, five, at(1, 0, -5))}},
		{"decided, number 0, no parts", recs(commit(0)), 0, []api.Open{open(0)}},
		{"in turn, not by number", recs(commit(70, five), commit(64, six), commit(66)), 0, []api.Open{open(70, five), open(64, six), open(66)}},
		{"ended", recs(commit(64, five), end(64)), 0, nil},
		{"ended twice", recs(commit(64, five), end(64), end(64)), 0, nil},
		{"ended, and never decided", recs(end(64)), 0, nil},
		{"ended, and decided only then", recs(end(64), commit(64, five)), 0, []api.Open{open(64, five)}},
		{"another one ended", recs(commit(64, five), end(65)), 0, []api.Open{open(64, five)}},
		{"one between ended", recs(commit(70, five), commit(64, six), commit(66), end(64)), 0, []api.Open{open(70, five), open(66)}},
		{"the parts of what ended mean nothing", recs(commit(64, five), rec(api.RecEnd, 64, six)), 0, nil},
		{"decided again, behind its end", recs(commit(64, five), commit(65), end(64), commit(64, six)), 0, []api.Open{open(65), open(64, six)}},
		{"each record opens one", recs(commit(64, five), commit(65), commit(64, six)), 0, []api.Open{open(64, five), open(65), open(64, six)}},
		{"an end leaves none of a deed", recs(commit(64, five), commit(65), commit(64, six), end(64)), 0, []api.Open{open(65)}},
		{"a boot leaves what is open", recs(boot(), commit(64, five), boot(), commit(128, six), boot(), end(64)), 3, []api.Open{open(128, six)}},
		{"a house's records make nothing", recs(boot(), commit(64, five), ready(65, six), done(64), drop(64)), 1, []api.Open{open(64, five)}},
		{"more than may be open", slices.Repeat(recs(commit(64)), api.MaxDeeds+1), 0, slices.Repeat([]api.Open{open(64)}, api.MaxDeeds+1)},
	} {
		want := api.Head{Log: c.l, Boot: c.boot, Open: c.open}
		if got := Head(c.l); told(got) != told(want) {
			t.Errorf("%s: Head(%v) is %+v, not %+v", c.name, c.l, got, want)
		}
	}
}

func TestDecided(t *testing.T) {
	for _, c := range []struct {
		name string
		l    []api.Rec
		want []api.Ready
	}{
		{"nothing", nil, nil},
		{"empty", []api.Rec{}, nil},
		{"one", recs(boot(), commit(64, five, six)), []api.Ready{of(64, five, six)}},
		{"number 0, no parts", recs(commit(0)), []api.Ready{of(0)}},
		{"in turn, not by number", recs(commit(70, five), commit(64, six), commit(66)), []api.Ready{of(70, five), of(64, six), of(66)}},
		{"what ended was decided", recs(commit(64, five), end(64), commit(65, six)), []api.Ready{of(64, five), of(65, six)}},
		{"each time", recs(commit(64, five), commit(64, six), end(64), commit(64)), []api.Ready{of(64, five), of(64, six), of(64)}},
		{"others decide nothing", recs(ready(64, five), done(64), drop(65), boot(), end(66), rec(0, 67, five), rec(7, 68, six), rec(-5, 69)), nil},
	} {
		if got := Decided(c.l); told(got) != told(c.want) {
			t.Errorf("%s: Decided(%v) is %v, not %v", c.name, c.l, got, c.want)
		}
	}
}

// TestNote: a record behind a house's log; what else stands in the house means nothing.
func TestNote(t *testing.T) {
	l := recs(ready(64, five), done(64), ready(65, six))
	for _, r := range recs(done(65), drop(65), done(64), ready(66, five, six), ready(65, five), ready(64, six), boot(), commit(65, six), end(65), rec(9, 65)) {
		want := House(append(Own(l), r))
		if got := Note(House(l), r); told(got) != told(want) {
			t.Errorf("Note of %v is %+v, not %+v", r, got, want)
		}
		spoilt := api.House{Log: l, Sums: [4]int{9, 9, 9, 9}, Ready: []api.Ready{of(66, six)}, Done: []int{3}}
		if got := Note(spoilt, r); told(got) != told(want) {
			t.Errorf("Note of %v, of a house that its log does not make, is %+v, not %+v", r, got, want)
		}
	}
	for _, none := range []api.House{{}, {Log: []api.Rec{}}} {
		want := api.House{Log: recs(ready(64, five)), Ready: []api.Ready{of(64, five)}}
		if got := Note(none, ready(64, five)); told(got) != told(want) {
			t.Errorf("the first Note is %+v, not %+v", got, want)
		}
	}
}

// TestOthers: a kind that is none makes nothing, whatever stands in it, and stays in the log.
func TestOthers(t *testing.T) {
	l := recs(boot(), ready(64, five), commit(64, six))
	for _, kind := range others {
		more := append(Own(l), rec(kind, 64, five), rec(kind, 65, six))
		house, head := House(l), Head(l)
		house.Log, head.Log = more, more
		if got := House(more); told(got) != told(house) {
			t.Errorf("House(%v) is %+v", more, got)
		}
		if got := Head(more); told(got) != told(head) {
			t.Errorf("Head(%v) is %+v", more, got)
		}
		if got := Decided(more); told(got) != told(Decided(l)) {
			t.Errorf("Decided(%v) is %v", more, got)
		}
	}
}

// everyLog calls look with all logs of so many records of a few deeds, and all kinds.
func everyLog(size int, look func([]api.Rec)) {
	some := recs(ready(0, five), ready(0, six, at(1, 0, -2)), ready(1, at(2, 3, -9)), done(0), done(1), drop(0), drop(1),
		boot(), commit(0, five, at(1, 1, 1)), commit(1), end(0), end(1), rec(9, 0, six))
	var grow func(l []api.Rec)
	grow = func(l []api.Rec) {
		look(l)
		if len(l) == size {
			return
		}
		for _, r := range some {
			grow(append(slices.Clone(l), r))
		}
	}
	grow(nil)
}

// lastOf tells where the last record ahead of i is that wanted tells; -1, if there is none.
func lastOf(l []api.Rec, i int, wanted func(api.Rec) bool) int {
	for i--; i >= 0 && !wanted(l[i]); i-- {
	}
	return i
}

// readyAt tells which record made a deed ready that is so ahead of record i: the first one behind its last end; -1, if none did.
func readyAt(l []api.Rec, i, deed int) int {
	over := lastOf(l, i, func(r api.Rec) bool {
		return r.Deed == deed && (r.Kind == api.RecDone || r.Kind == api.RecDrop)
	})
	for k := over + 1; k < i; k++ {
		if l[k].Kind == api.RecReady && l[k].Deed == deed {
			return k
		}
	}
	return -1
}

// houseBack is House told from each record's past, without keeping anything on the way.
func houseBack(l []api.Rec) api.House {
	h := api.House{Log: l}
	for i, r := range l {
		if r.Kind == api.RecReady && readyAt(l, len(l), r.Deed) == i {
			h.Ready = append(h.Ready, of(r.Deed, r.Parts...))
		}
		if from := readyAt(l, i, r.Deed); r.Kind == api.RecDone && from >= 0 {
			h.Done = append(h.Done, r.Deed)
			for _, p := range l[from].Parts {
				h.Sums[p.Key] += p.N
			}
		}
	}
	return h
}

// headBack is Head told from each record's future.
func headBack(l []api.Rec) api.Head {
	h := api.Head{Log: l}
	for i, r := range l {
		if r.Kind == api.RecBoot {
			h.Boot++
		}
		ends := func(e api.Rec) bool { return e.Kind == api.RecEnd && e.Deed == r.Deed }
		if r.Kind == api.RecCommit && !slices.ContainsFunc(l[i:], ends) {
			h.Open = append(h.Open, open(r.Deed, r.Parts...))
		}
	}
	return h
}

// TestEveryLog: logs make what another way of telling it makes, record by record as at once.
func TestEveryLog(t *testing.T) {
	everyLog(4, func(l []api.Rec) {
		house, head := House(l), Head(l)
		if told(house) != told(houseBack(l)) {
			t.Fatalf("House(%v) is %+v, not %+v", l, house, houseBack(l))
		}
		if told(head) != told(headBack(l)) {
			t.Fatalf("Head(%v) is %+v, not %+v", l, head, headBack(l))
		}
		if len(l) == 0 {
			return
		}
		last := len(l) - 1
		if got := Note(House(l[:last]), l[last]); told(got) != told(house) {
			t.Fatalf("Note of %v is %+v, not %+v", l, got, house)
		}
	})
}

// TestDoneStaysDone: whatever is noted, what is done stays, and only what is done counts.
func TestDoneStaysDone(t *testing.T) {
	everyLog(4, func(l []api.Rec) {
		if len(l) == 0 {
			return
		}
		before, now := House(l[:len(l)-1]), House(l)
		n := len(before.Done)
		if len(now.Done) < n || len(now.Done) > n+1 || !slices.Equal(now.Done[:n], before.Done) {
			t.Fatalf("%v: done were %v, and are %v", l, before.Done, now.Done)
		}
		want := before.Sums
		for _, deed := range now.Done[n:] {
			i := slices.IndexFunc(before.Ready, func(d api.Ready) bool { return d.Deed == deed })
			want = part.Do(want, before.Ready[i].Parts)
		}
		if now.Sums != want {
			t.Fatalf("%v: sums are %v, not %v", l, now.Sums, want)
		}
	})
}

// answers are all calls' answers of a log and a record, made anew each time.
func answers(l []api.Rec, r api.Rec) []any {
	return []any{Own(l), House(l), Note(api.House{Log: l}, r), Head(l), Decided(l)}
}

// partLists are all lists of parts in an answer.
func partLists(x any) [][]api.Part {
	var out [][]api.Part
	switch x := x.(type) {
	case []api.Rec:
		for _, r := range x {
			out = append(out, r.Parts)
		}
	case []api.Ready:
		for _, d := range x {
			out = append(out, d.Parts)
		}
	case api.House:
		out = append(partLists(x.Log), partLists(x.Ready)...)
	case api.Head:
		out = partLists(x.Log)
		for _, o := range x.Open {
			out = append(out, o.Parts)
		}
	}
	return out
}

// spoil writes over all of a list, its spare room too.
func spoil[T any](l []T, with T) {
	l = l[:cap(l)]
	for i := range l {
		l[i] = with
	}
}

// spoilAll writes over all that an answer has.
func spoilAll(x any) {
	for _, l := range partLists(x) {
		spoil(l, at(7, 7, 7))
	}
	switch x := x.(type) {
	case []api.Rec:
		spoil(x, rec(7, 7))
	case []api.Ready:
		spoil(x, of(7))
	case api.House:
		spoil(x.Log, rec(7, 7))
		spoil(x.Ready, of(7))
		spoil(x.Done, 7)
	case api.Head:
		spoil(x.Log, rec(7, 7))
		spoil(x.Open, open(7))
	}
}

// crowded is a log with room behind it, and behind its parts, that holds something else: it must neither be looked at nor be changed.
func crowded() (l []api.Rec, partRoom []api.Part, recRoom []api.Rec) {
	partRoom = parts(five, six, at(2, 2, 2), at(0, 3, 9), at(1, 1, 1), at(0, 0, -1))
	recRoom = recs(boot(), ready(64, partRoom[:2]...), ready(65, partRoom[2:3]...), done(64), commit(66, partRoom[1:3]...),
		commit(67, partRoom[4:5]...), rec(9, 1, partRoom[:1]...), ready(69, partRoom[3]), done(65), end(66), boot())
	return recRoom[:8], partRoom, recRoom
}

func TestOnlyRead(t *testing.T) {
	l, partRoom, recRoom := crowded()
	before := told(partRoom) + told(recRoom)
	r := ready(68, partRoom[:1]...)
	for _, x := range answers(l, r) {
		if told(partRoom)+told(recRoom) != before {
			t.Fatalf("behind %+v what was handed in is %v, %v", x, partRoom, recRoom)
		}
	}
	clean := Own(l)
	for i, x := range answers(l, r) {
		if want := answers(clean, r)[i]; told(x) != told(want) {
			t.Errorf("with room behind the lists %+v comes, not %+v", x, want)
		}
		spoilAll(x)
		if told(partRoom)+told(recRoom) != before {
			t.Fatalf("answer %d shares memory with what was handed in: %v, %v", i, partRoom, recRoom)
		}
	}
}

// TestNothingKept: what is handed in may be changed behind the call, and answers stay as they are.
func TestNothingKept(t *testing.T) {
	l, partRoom, recRoom := crowded()
	r := ready(68, partRoom[:1]...)
	got := answers(l, r)
	var want []string
	for _, x := range got {
		want = append(want, told(x))
	}
	spoil(partRoom, at(6, 6, 6))
	spoil(recRoom, rec(6, 6))
	for i, x := range got {
		if told(x) != want[i] {
			t.Errorf("answer %d is %+v now, not %s", i, x, want[i])
		}
	}
}

// TestNothingShared: no two lists of one answer have memory in common.
func TestNothingShared(t *testing.T) {
	l, partRoom, _ := crowded()
	for _, x := range answers(l, ready(68, partRoom[:1]...)) {
		lists := partLists(x)
		for i, p := range lists {
			spoil(p, at(i, i, i))
		}
		for i, p := range lists {
			if slices.ContainsFunc(p[:cap(p)], func(q api.Part) bool { return q != at(i, i, i) }) {
				t.Fatalf("parts %d of %+v are also another list's", i, x)
			}
		}
	}
}

// TestNoPanic: of wrong logs and houses nothing is promised, but no call panics over them.
func TestNoPanic(t *testing.T) {
	edges := []int{math.MinInt, -1, 0, 1, 3, 4, math.MaxInt}
	var wild []api.Part
	for _, key := range edges {
		for _, n := range edges {
			wild = append(wild, at(key, key, n), at(n, key, n))
		}
	}
	var l []api.Rec
	for _, deed := range edges {
		for _, kind := range append([]int{1, 5, 2, 6, 1, 3, 4, 1, 2}, others...) {
			l = append(l, rec(kind, deed, wild...), rec(kind, deed))
		}
	}
	for i := range l {
		answers(l[i:], l[i])
		answers(nil, l[i])
	}
	Note(api.House{Log: l, Ready: []api.Ready{of(-1, wild...)}, Done: edges}, done(-1))
}
