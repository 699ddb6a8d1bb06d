package locks

import (
	"fmt"
	"math"
	"slices"
	"testing"

	"allornone/api"
	"allornone/log"
)

// at is a part, written short; so are the records below.
func at(house, key, n int) api.Part { return api.Part{House: house, Key: key, N: n} }

func parts(l ...api.Part) []api.Part { return l }

func rec(kind, deed int, l ...api.Part) api.Rec { return api.Rec{Kind: kind, Deed: deed, Parts: l} }

func ready(deed int, l ...api.Part) api.Rec { return rec(api.RecReady, deed, l...) }

func done(deed int) api.Rec { return rec(api.RecDone, deed) }

func drop(deed int) api.Rec { return rec(api.RecDrop, deed) }

func recs(l ...api.Rec) []api.Rec { return l }

// ofKeys are parts of these keys.
func ofKeys(keys ...int) []api.Part {
	var out []api.Part
	for _, key := range keys {
		out = append(out, at(0, key, 1))
	}
	return out
}

// beside are keys that no house has.
var beside = []int{math.MinInt, -2, -1, api.MaxKeys, api.MaxKeys + 1, math.MaxInt}

func TestWho(t *testing.T) {
	const most = api.MaxSum
	for _, c := range []struct {
		name string
		l    []api.Rec
		want [api.MaxKeys]int
	}{
		{"no log", nil, [4]int{-1, -1, -1, -1}},
		{"an empty log", []api.Rec{}, [4]int{-1, -1, -1, -1}},
		{"one", recs(ready(64, at(0, 1, 5))), [4]int{-1, 64, -1, -1}},
		{"number 0, key 0", recs(ready(0, at(0, 0, 5))), [4]int{0, -1, -1, -1}},
		{"last key", recs(ready(64, at(0, 3, 5))), [4]int{-1, -1, -1, 64}},
		{"at all keys", recs(ready(64, ofKeys(3, 0, 2, 1)...)), [4]int{64, 64, 64, 64}},
		{"at the last part's key too", recs(ready(64, ofKeys(0, 1, 3)...)), [4]int{64, 64, -1, 64}},
		{"also with nothing more", recs(ready(64, at(0, 2, 0))), [4]int{-1, -1, 64, -1}},
		{"whatever N is", recs(ready(64, at(0, 0, 3), at(0, 3, -most), at(0, 2, most))), [4]int{64, -1, 64, 64}},
		{"each its own", recs(ready(64, at(0, 1, 5)), ready(65, at(0, 3, 5)), ready(66, at(0, 0, 5))), [4]int{66, 64, -1, 65}},
		{"the first one, not the least", recs(ready(70, at(0, 1, 5)), ready(64, at(0, 1, 5))), [4]int{-1, 70, -1, -1}},
		{"the first one, not the greatest", recs(ready(64, at(0, 1, 5)), ready(70, at(0, 1, 5))), [4]int{-1, 64, -1, -1}},
		{"the first one at that key", recs(ready(64, ofKeys(0, 1)...), ready(65, ofKeys(3)...), ready(66, ofKeys(1, 2)...)), [4]int{64, 64, 66, 65}},
		{"done", recs(ready(64, at(0, 1, 5)), done(64)), [4]int{-1, -1, -1, -1}},
		{"dropped", recs(ready(64, at(0, 1, 5)), drop(64)), [4]int{-1, -1, -1, -1}},
		{"another one is done", recs(ready(64, at(0, 1, 5)), done(65)), [4]int{-1, 64, -1, -1}},
		{"behind one that is done the next", recs(ready(64, ofKeys(0, 1)...), ready(65, ofKeys(1, 2)...), done(64)), [4]int{-1, 65, 65, -1}},
		{"behind one that is dropped the next", recs(ready(64, ofKeys(0, 1)...), ready(65, ofKeys(1, 2)...), drop(64)), [4]int{-1, 65, 65, -1}},
		{"the later one is done", recs(ready(64, ofKeys(0, 1)...), ready(65, ofKeys(1, 2)...), done(65)), [4]int{64, 64, -1, -1}},
		{"ready twice: the first keys hold", recs(ready(64, ofKeys(1)...), ready(64, ofKeys(2)...)), [4]int{-1, 64, -1, -1}},
		{"ready again, and last now", recs(ready(64, ofKeys(1)...), ready(65, ofKeys(1)...), drop(64), ready(64, ofKeys(1, 2)...)), [4]int{-1, 65, 64, -1}},
		{"ready again, behind being done", recs(ready(64, ofKeys(1)...), done(64), ready(64, ofKeys(2)...)), [4]int{-1, -1, 64, -1}},
		{"whatever houses its parts name", recs(ready(64, at(2, 1, 5)), ready(65, at(0, 1, 5), at(1, 3, 5)), ready(66, at(0, 3, 5))), [4]int{-1, 64, -1, 65}},
		{"what the head notes is at nothing", recs(rec(api.RecBoot, 0), rec(api.RecCommit, 64, at(0, 1, 5)), rec(api.RecEnd, 65, at(0, 2, 5))), [4]int{-1, -1, -1, -1}},
		{"what is no kind is at nothing", recs(rec(0, 64, at(0, 1, 5)), rec(7, 65, at(0, 2, 5)), rec(-1, 66, at(0, 3, 5))), [4]int{-1, -1, -1, -1}},
		{"the parts of what is done are at nothing", recs(rec(api.RecDone, 64, at(0, 1, 5)), rec(api.RecDrop, 65, at(0, 2, 5))), [4]int{-1, -1, -1, -1}},
	} {
		h := log.House(c.l)
		for key, want := range c.want {
			if got := Who(h, key); got != want {
				t.Errorf("%s: at key %d of %v is %d, not %d", c.name, key, c.l, got, want)
			}
		}
		for _, key := range beside {
			if got := Who(h, key); got != -1 {
				t.Errorf("%s: at key %d of %v is %d, and there is no such key", c.name, key, c.l, got)
			}
		}
	}
}

func TestFree(t *testing.T) {
	none := log.House(nil)
	some := log.House(recs(ready(0, at(0, 0, 5)), ready(64, at(0, 3, 7)), ready(65, at(0, 2, 1)), done(65)))
	full := log.House(recs(ready(64, ofKeys(0, 1, 2, 3)...)))
	elsewhere := log.House(recs(ready(64, at(2, 1, 5))))
	crowd := log.House(recs(ready(64, ofKeys(1)...), ready(65, ofKeys(1)...), ready(66, ofKeys(1, 2)...), drop(64)))
	for _, c := range []struct {
		name string
		h    api.House
		l    []api.Part
		want bool
	}{
		{"no parts, nobody ready", none, nil, true},
		{"nobody ready", none, ofKeys(0, 1, 2, 3), true},
		{"nil", full, nil, true},
		{"no parts", full, []api.Part{}, true},
		{"all keys, all taken", full, ofKeys(0, 1, 2, 3), false},
		{"one of all that are taken", full, ofKeys(2), false},
		{"taken by number 0", some, ofKeys(0), false},
		{"nobody was there", some, ofKeys(1), true},
		{"who was there is done", some, ofKeys(2), true},
		{"taken by the last one", some, ofKeys(3), false},
		{"two that are free", some, ofKeys(2, 1), true},
		{"only the first is taken", some, ofKeys(0, 1, 2), false},
		{"only the last is taken", some, ofKeys(1, 2, 3), false},
		{"only one between is taken", some, ofKeys(1, 3, 2), false},
		{"of another house, taken", some, parts(at(2, 0, 1)), false},
		{"of another house, free", some, parts(at(1, 1, 1), at(2, 2, 1)), true},
		{"one key, two houses", some, parts(at(1, 1, 1), at(2, 1, 1)), true},
		{"of a house that is none", some, parts(at(-1, 3, 1)), false},
		{"of a house that is none, free", some, parts(at(9, 1, 1)), true},
		{"taken by a part of another house", elsewhere, parts(at(0, 1, 5)), false},
		{"beside a part of another house", elsewhere, parts(at(2, 0, 5), at(2, 2, 5), at(2, 3, 5)), true},
		{"nothing more is also at a key", some, parts(at(0, 3, 0)), false},
		{"taking back is also at a key", some, parts(at(0, 3, -7)), false},
		{"more than may be is also at a key", some, parts(at(0, 3, api.MaxSum+1)), false},
		{"more than may be, free", some, parts(at(0, 1, math.MinInt)), true},
		{"one of several dropped", crowd, ofKeys(1), false},
		{"beside several", crowd, ofKeys(0, 3), true},
		{"only the last of several", crowd, ofKeys(2), false},
		{"keys that are none", full, ofKeys(beside...), true},
		{"keys that are none, and one that is taken", some, append(ofKeys(beside...), at(0, 3, 1)), false},
		{"more parts than may be, free", some, ofKeys(1, 1, 2, 2, 1, 2), true},
		{"more parts than may be, taken", some, ofKeys(1, 1, 2, 2, 1, 2, 0), false},
	} {
		if got := Free(c.h, c.l); got != c.want {
			t.Errorf("%s: Free(%+v, %v) is %v", c.name, c.h, c.l, got)
		}
	}
}

// everyLog hands out all logs of at most n of some records.
func everyLog(n int, hand func([]api.Rec)) {
	some := recs(ready(0, ofKeys(1)...), ready(64, ofKeys(0, 1)...), ready(65, at(1, 2, -1), at(2, 1, 5)), ready(66, ofKeys(3)...),
		done(0), done(64), drop(64), drop(65), rec(api.RecCommit, 64, ofKeys(2)...))
	var grow func([]api.Rec)
	grow = func(l []api.Rec) {
		hand(l)
		for _, r := range some {
			if len(l) < n {
				grow(append(slices.Clone(l), r))
			}
		}
	}
	grow(nil)
}

// atKey are the deeds, in turn, that the log leaves ready at a key, told record by record for that key alone.
func atKey(l []api.Rec, key int) []int {
	type spot struct {
		deed int
		here bool
	}
	var line []spot
	for _, r := range l {
		of := func(s spot) bool { return s.deed == r.Deed }
		switch r.Kind {
		case api.RecReady:
			if !slices.ContainsFunc(line, of) {
				here := false
				for _, p := range r.Parts {
					here = here || p.Key == key
				}
				line = append(line, spot{r.Deed, here})
			}
		case api.RecDone, api.RecDrop:
			line = slices.DeleteFunc(line, of)
		}
	}
	var out []int
	for _, s := range line {
		if s.here {
			out = append(out, s.deed)
		}
	}
	return out
}

// TestEveryLog: of all short logs, who is at a key is what the log tells of that key, and keys are free where nobody is.
func TestEveryLog(t *testing.T) {
	everyLog(4, func(l []api.Rec) {
		h := log.House(l)
		var free [api.MaxKeys]bool
		for key := range api.MaxKeys {
			want := append(atKey(l, key), -1)[0]
			free[key] = want == -1
			if got := Who(h, key); got != want {
				t.Fatalf("at key %d of %v is %d, not %d", key, l, got, want)
			}
		}
		for set := range 1 << api.MaxKeys {
			var asked []api.Part
			want := true
			for key := range api.MaxKeys {
				if set>>key&1 == 1 {
					asked = append(asked, at(key%api.MaxHouses, key, 1))
					want = want && free[key]
				}
			}
			if got := Free(h, asked); got != want {
				t.Fatalf("Free of %v, of %v, is %v", l, asked, got)
			}
		}
	})
}

// TestNoTwoAtOneKey: where only what is free gets ready, no two are at one key, and who is done, or dropped, is at nothing.
func TestNoTwoAtOneKey(t *testing.T) {
	everyLog(4, func(l []api.Rec) {
		h := log.House(nil)
		for _, r := range l {
			if r.Kind == api.RecReady && !Free(h, r.Parts) {
				continue
			}
			h = log.Note(h, r)
			for key := range api.MaxKeys {
				if there := atKey(h.Log, key); len(there) > 1 {
					t.Fatalf("at key %d of %v are %v", key, h.Log, there)
				}
				if (r.Kind == api.RecDone || r.Kind == api.RecDrop) && Who(h, key) == r.Deed {
					t.Fatalf("behind %v, %d is at key %d still", h.Log, r.Deed, key)
				}
			}
		}
	})
}

// crowded is a house, and parts, with room behind all lists that holds something else: it must neither be looked at nor be changed.
func crowded() (h api.House, l []api.Part, told func() string) {
	partRoom := ofKeys(0, 1, 2, 3, 0)
	askRoom := ofKeys(2, 3, 0, 1)
	h = log.House(recs(ready(64, ofKeys(0)...)))
	readyRoom := []api.Ready{{Deed: 64, Parts: partRoom[:1]}, {Deed: 65, Parts: partRoom[1:2]}, {Deed: 66, Parts: partRoom[2:4]}}
	h.Ready = readyRoom[:2]
	return h, askRoom[:2], func() string { return fmt.Sprintf("%v %v %v %v", partRoom, askRoom, readyRoom, h) }
}

func TestOnlyRead(t *testing.T) {
	h, l, told := crowded()
	before := told()
	for key, want := range []int{64, 65, -1, -1} {
		if got := Who(h, key); got != want {
			t.Errorf("with room behind the lists %d is at key %d, not %d", got, key, want)
		}
	}
	if !Free(h, l) {
		t.Errorf("with room behind the lists keys 2 and 3 are not free")
	}
	if Free(h, l[:3]) {
		t.Errorf("with key 0, too, they are free")
	}
	if told() != before {
		t.Errorf("what was handed in is %s now, not %s", told(), before)
	}
}

// TestNoPanic: of houses that no log makes, and wrong parts, nothing is promised, but no call panics over them.
func TestNoPanic(t *testing.T) {
	edges := append([]int{0, 1, 3}, beside...)
	var wild []api.Part
	for _, key := range edges {
		for _, n := range edges {
			wild = append(wild, at(n, key, n), at(key, key, n))
		}
	}
	var all []api.Ready
	for _, deed := range edges {
		all = append(all, api.Ready{Deed: deed}, api.Ready{Deed: deed, Parts: []api.Part{}}, api.Ready{Deed: deed, Parts: wild})
	}
	for _, h := range []api.House{{}, {Ready: []api.Ready{}}, {Ready: all[:2]}, {Ready: all}} {
		for i, key := range edges {
			Who(h, key)
			Free(h, wild[i:])
		}
		if !Free(h, nil) || !Free(h, []api.Part{}) {
			t.Errorf("no parts are not free at %+v", h)
		}
	}
}
