package house

import (
	"fmt"
	"math"
	"slices"
	"testing"

	"allornone/api"
	"allornone/log"
	"allornone/part"
	"allornone/wire"
)

const most = api.MaxSum

// at is a part of house 0, written short; so are records, deeds and messages below.
func at(key, n int) api.Part { return api.Part{Key: key, N: n} }

func parts(l ...api.Part) []api.Part { return l }

func rec(kind, deed int, l ...api.Part) api.Rec { return api.Rec{Kind: kind, Deed: deed, Parts: l} }

func ready(deed int, l ...api.Part) api.Rec { return rec(api.RecReady, deed, l...) }

func done(deed int) api.Rec { return rec(api.RecDone, deed) }

func drop(deed int) api.Rec { return rec(api.RecDrop, deed) }

func recs(l ...api.Rec) []api.Rec { return l }

func msg(kind, deed int, l ...api.Part) api.Msg { return api.Msg{Kind: kind, Deed: deed, Parts: l} }

func prepare(deed int, l ...api.Part) api.Msg { return msg(api.MsgPrepare, deed, l...) }

func commit(deed int) api.Msg { return msg(api.MsgCommit, deed) }

func abort(deed int) api.Msg { return msg(api.MsgAbort, deed) }

// told is how a value is told; nil and empty lists are told alike.
func told(x ...any) string { return fmt.Sprintf("%+v", x) }

// some is a log of a house that did one deed, is ready for two, and dropped one.
func some() []api.Rec {
	return recs(ready(64, at(0, 5), at(1, most)), done(64), ready(66, at(0, -5), at(2, 1)), ready(65, at(3, 0)), ready(67, at(1, -1)), drop(67))
}

// again is a log of a house that is ready once more for what it did.
func again() []api.Rec { return recs(ready(64, at(0, 5)), done(64), ready(64, at(1, 6))) }

// TestOwn: a copy is the same, also of a house that no log makes, and shares nothing with it.
func TestOwn(t *testing.T) {
	odd := api.House{Sums: [4]int{1, -2, 3, most + 1}, Ready: []api.Ready{{Deed: -1}, {Deed: 9, Parts: parts(at(9, 9))}}, Done: []int{5, 5}}
	for _, h := range []api.House{{}, {Log: recs(), Done: []int{}}, log.House(some()), crowded(), odd} {
		want, before := told(h), roomy(h)
		got := Own(h)
		if told(got) != want {
			t.Errorf("Own(%s) is %+v", want, got)
		}
		if spoilHouse(got); roomy(h) != before {
			t.Errorf("behind Own what was handed in is %s, not %s", roomy(h), before)
		}
		got = Own(h)
		if spoilHouse(h); told(got) != want {
			t.Errorf("Own keeps what was handed in: %+v, not %s", got, want)
		}
	}
}

func TestVote(t *testing.T) {
	below := recs(ready(64, at(0, -3), at(1, most)), done(64), ready(65, at(1, 9)), done(65))
	for _, c := range []struct {
		name string
		log  []api.Rec
		deed int
		l    []api.Part
		want api.Errno
	}{
		{"a new house", nil, 64, parts(at(0, 5)), api.OK},
		{"a new house, number 0", []api.Rec{}, 0, parts(at(0, 5)), api.OK},
		{"a new house has nothing", nil, 64, parts(at(0, -1)), api.ErrLess},
		{"the most", nil, 64, parts(at(0, most)), api.OK},
		{"nothing more", nil, 64, parts(at(3, 0)), api.OK},
		{"no parts", some(), 68, nil, api.OK},
		{"empty parts", some(), 68, []api.Part{}, api.OK},
		{"done", some(), 64, parts(at(1, -1)), api.ErrDone},
		{"done, ahead of locked", some(), 64, parts(at(0, 1)), api.ErrDone},
		{"done, ahead of what does not fit", some(), 64, parts(at(1, 1)), api.ErrDone},
		{"done, without parts", some(), 64, nil, api.ErrDone},
		{"done, ahead of ready", again(), 64, parts(at(0, 1)), api.ErrDone},
		{"ready", some(), 66, parts(at(0, -5), at(2, 1)), api.OK},
		{"ready is not locked by itself", some(), 65, parts(at(3, 0)), api.OK},
		{"ready, ahead of locked by another one", some(), 65, parts(at(0, 1)), api.OK},
		{"ready, ahead of what does not fit", some(), 66, parts(at(1, 1)), api.OK},
		{"ready, and other parts", some(), 66, parts(at(1, -9)), api.OK},
		{"ready, without parts", some(), 66, nil, api.OK},
		{"locked", some(), 68, parts(at(0, 1)), api.ErrLocked},
		{"locked by one that moves nothing", some(), 68, parts(at(3, 1)), api.ErrLocked},
		{"locked at the last key", some(), 68, parts(at(1, -1), at(2, 1)), api.ErrLocked},
		{"locked, ahead of too little", some(), 68, parts(at(0, -most)), api.ErrLocked},
		{"locked, ahead of too much", some(), 68, parts(at(0, most)), api.ErrLocked},
		{"locked behind what does not fit", some(), 68, parts(at(1, 1), at(2, 1)), api.ErrLocked},
		{"free, and down to nothing", some(), 68, parts(at(1, -most)), api.OK},
		{"free, and too much", some(), 68, parts(at(1, 1)), api.ErrMuch},
		{"what was done is free", recs(ready(64, at(0, 5)), done(64)), 65, parts(at(0, -5)), api.OK},
		{"what was done is no more than that", recs(ready(64, at(0, 5)), done(64)), 65, parts(at(0, -6)), api.ErrLess},
		{"what is only ready does not count", recs(ready(64, at(0, 5))), 65, parts(at(1, -1)), api.ErrLess},
		{"dropped, and asked again", some(), 67, parts(at(1, -1)), api.OK},
		{"dropped did not count", recs(ready(64, at(0, 5)), drop(64)), 65, parts(at(0, -5)), api.ErrLess},
		{"part by part, too little first", recs(ready(64, at(1, most)), done(64)), 65, parts(at(0, -1), at(1, 1)), api.ErrLess},
		{"part by part, too much first", recs(ready(64, at(1, most)), done(64)), 65, parts(at(1, 1), at(0, -1)), api.ErrMuch},
		{"where there is less than nothing", below, 68, parts(at(0, 2)), api.ErrLess},
		{"where there was less than nothing", below, 68, parts(at(0, 3)), api.OK},
		{"where there is too much", below, 68, parts(at(1, -8)), api.ErrMuch},
		{"where there was too much", below, 68, parts(at(1, -9)), api.OK},
		{"done, and never ready, is not done", recs(done(64)), 64, parts(at(0, 1)), api.OK},
		{"what the head notes means nothing", recs(rec(api.RecCommit, 64, at(0, 5)), rec(api.RecEnd, 64)), 64, parts(at(0, 5)), api.OK},
	} {
		if got := Vote(log.House(c.log), c.deed, c.l); got != c.want {
			t.Errorf("%s: Vote(%v, %d, %v) is %d, not %d", c.name, c.log, c.deed, c.l, got, c.want)
		}
	}
}

// heard is what a house must note, and say, of a message: a record, if noted has one, and a kind, if it is not 0.
type heard struct {
	name  string
	log   []api.Rec
	m     api.Msg
	noted []api.Rec
	said  int
}

func hearings() []heard {
	l := parts(at(1, -1), at(0, 0))
	fresh := recs(ready(64, at(0, 5), at(1, most)), done(64))
	return []heard{
		{"yes", nil, prepare(64, at(0, 5), at(3, most)), recs(ready(64, at(0, 5), at(3, most))), api.MsgYes},
		{"yes, number 0", nil, prepare(0, at(0, 0)), recs(ready(0, at(0, 0))), api.MsgYes},
		{"yes, last number", nil, prepare(1343, at(0, 1)), recs(ready(1343, at(0, 1))), api.MsgYes},
		{"yes, the parts in turn", fresh, prepare(65, l...), recs(ready(65, l...)), api.MsgYes},
		{"yes, beside others", some(), prepare(68, at(1, -most)), recs(ready(68, at(1, -most))), api.MsgYes},
		{"yes, behind a drop", some(), prepare(67, at(1, -2)), recs(ready(67, at(1, -2))), api.MsgYes},
		{"yes, twice", some(), prepare(66, at(0, -5), at(2, 1)), nil, api.MsgYes},
		{"yes, twice, with other parts", some(), prepare(66, at(1, 7)), nil, api.MsgYes},
		{"prepared, and done", some(), prepare(64, at(0, 5), at(1, most)), nil, 0},
		{"prepared, and done, with parts that would fit", some(), prepare(64, at(1, -1)), nil, 0},
		{"prepared, done, and ready again", again(), prepare(64, at(1, 6)), nil, 0},
		{"no, locked", some(), prepare(68, at(2, 1)), nil, api.MsgNo},
		{"no, too little", nil, prepare(64, at(0, -1)), nil, api.MsgNo},
		{"no, too much", fresh, prepare(65, at(1, 1)), nil, api.MsgNo},
		{"no, only the last part", fresh, prepare(65, at(0, 1), at(2, 1), at(3, -1)), nil, api.MsgNo},
		{"committed", some(), commit(66), recs(done(66)), api.MsgAck},
		{"committed, the later one", some(), commit(65), recs(done(65)), api.MsgAck},
		{"committed, number 0", recs(ready(0, at(0, 1))), commit(0), recs(done(0)), api.MsgAck},
		{"committed twice", some(), commit(64), nil, api.MsgAck},
		{"committed, never heard of", some(), commit(68), nil, 0},
		{"committed, dropped", some(), commit(67), nil, 0},
		{"committed, a new house", nil, commit(0), nil, 0},
		{"committed, done, and ready again", again(), commit(64), recs(done(64)), api.MsgAck},
		{"committed, also where it does not fit", recs(ready(64, at(0, -5))), commit(64), recs(done(64)), api.MsgAck},
		{"aborted", some(), abort(66), recs(drop(66)), 0},
		{"aborted, number 0", recs(ready(0, at(0, 1))), abort(0), recs(drop(0)), 0},
		{"aborted twice", some(), abort(67), nil, 0},
		{"aborted, done", some(), abort(64), nil, 0},
		{"aborted, never heard of", some(), abort(68), nil, 0},
		{"aborted, a new house", nil, abort(0), nil, 0},
		{"aborted, done, and ready again", again(), abort(64), recs(drop(64)), 0},
	}
}

func TestHear(t *testing.T) {
	for _, c := range hearings() {
		for me := range api.MaxHouses {
			m := to(me, c.m)
			if err := wire.Wrong(m); err != api.OK {
				t.Fatalf("%s: %v is not right: %d", c.name, m, err)
			}
			noted := log.Own(c.noted)
			for i := range noted {
				noted[i].Parts = to(me, prepare(0, noted[i].Parts...)).Parts
			}
			want := log.House(append(log.Own(c.log), noted...))
			var says []api.Msg
			if c.said != 0 {
				says = append(says, api.Msg{Kind: c.said, Deed: m.Deed, House: me})
			}
			got, said := Hear(log.House(c.log), me, m)
			if told(got) != told(want) || told(said) != told(says) {
				t.Errorf("%s: house %d, of %v, hears %v and is %+v, saying %v, not %+v, saying %v", c.name, me, c.log, m, got, said, want, says)
			}
		}
	}
}

// to is that message, and its parts, to a house.
func to(me int, m api.Msg) api.Msg {
	m.House = me
	m.Parts = slices.Clone(m.Parts)
	for i := range m.Parts {
		m.Parts[i].House = me
	}
	return m
}

// TestOthers: of kinds that are not for houses, or are none, nothing is noted, and nothing said.
func TestOthers(t *testing.T) {
	for _, l := range [][]api.Rec{nil, some(), again()} {
		want := log.House(l)
		for _, kind := range []int{math.MinInt, -1, 0, api.MsgYes, api.MsgNo, api.MsgAck, api.MsgAsk, 8, math.MaxInt} {
			for deed := 63; deed < 69; deed++ {
				for _, m := range []api.Msg{msg(kind, deed), msg(kind, deed, at(1, -1))} {
					got, said := Hear(log.House(l), 0, m)
					if told(got) != told(want) || len(said) > 0 {
						t.Errorf("%v, of %v: %+v, saying %v", m, l, got, said)
					}
				}
			}
		}
	}
}

// TestFieldsThatMeanNothing: parts of what has none neither count, nor get into the log, nor are said.
func TestFieldsThatMeanNothing(t *testing.T) {
	for _, c := range hearings() {
		if c.m.Kind == api.MsgPrepare {
			continue
		}
		more := c.m
		more.Parts = parts(at(3, 7), at(0, 1))
		want, says := Hear(log.House(c.log), 1, c.m)
		if got, said := Hear(log.House(c.log), 1, more); told(got, said) != told(want, says) {
			t.Errorf("%s: with parts %+v, saying %v, not %+v, saying %v", c.name, got, said, want, says)
		}
	}
}

func TestTick(t *testing.T) {
	for _, c := range []struct {
		name string
		log  []api.Rec
		want []int
	}{
		{"a new house", nil, nil},
		{"an empty log", []api.Rec{}, nil},
		{"one", recs(ready(64, at(0, 5))), []int{64}},
		{"number 0", recs(ready(0, at(0, 5))), []int{0}},
		{"in turn, not by number", recs(ready(70, at(0, 5)), ready(64, at(1, 5), at(2, 5)), ready(66, at(3, 5))), []int{70, 64, 66}},
		{"once, though ready twice", recs(ready(64, at(0, 5)), ready(64, at(1, 5))), []int{64}},
		{"done, and dropped", recs(ready(64, at(0, 5)), ready(65, at(1, 5)), done(64), drop(65)), nil},
		{"what is left", some(), []int{66, 65}},
		{"done, and ready again", again(), []int{64}},
		{"also two at one key", recs(ready(65, at(0, 5)), ready(64, at(0, 5))), []int{65, 64}},
		{"what the head notes is not asked", recs(rec(api.RecBoot, 0), rec(api.RecCommit, 64, at(0, 5))), nil},
	} {
		for me := range api.MaxHouses {
			var want []api.Msg
			for _, deed := range c.want {
				want = append(want, api.Msg{Kind: api.MsgAsk, Deed: deed, House: me})
			}
			if got := Tick(log.House(c.log), me); told(got) != told(want) {
				t.Errorf("%s: Tick(%v, %d) is %v, not %v", c.name, c.log, me, got, want)
			}
		}
	}
}

// everyWay calls look with a house that heard each run of so many messages, step by step: the house ahead, the message, and what came of it.
func everyWay(n int, look func(before api.House, m api.Msg, now api.House, said []api.Msg)) {
	ms := []api.Msg{
		prepare(0, at(0, 5), at(1, most)), commit(0), abort(0),
		prepare(1, at(0, -5), at(2, 1)), commit(1), abort(1),
		prepare(2, at(1, 1)), commit(2), abort(2),
		prepare(3, at(1, -1), at(3, 2)), commit(3), msg(api.MsgAsk, 3),
	}
	var grow func(h api.House, n int)
	grow = func(h api.House, n int) {
		if n == 0 {
			return
		}
		for _, m := range ms {
			now, said := Hear(h, 0, m)
			look(h, m, now, said)
			grow(now, n-1)
		}
	}
	grow(api.House{}, n)
}

// TestTwiceIsOnce: the same message a second time changes nothing, and is answered as the first time.
func TestTwiceIsOnce(t *testing.T) {
	everyWay(4, func(before api.House, m api.Msg, now api.House, said []api.Msg) {
		got, says := Hear(now, 0, m)
		if told(got, says) != told(now, said) {
			t.Fatalf("%+v hears %v twice and is %+v, saying %v, not %+v, saying %v", before, m, got, says, now, said)
		}
	})
}

// TestKeepsItsWord: whatever is heard, no sum is below nothing, or too much, and what a house is ready for it can do, one behind the other; it is ready no more only for what it is told the end of.
func TestKeepsItsWord(t *testing.T) {
	everyWay(5, func(before api.House, m api.Msg, now api.House, said []api.Msg) {
		all := now.Sums
		for _, d := range now.Ready {
			if err := part.Fits(all, d.Parts); err != api.OK {
				t.Fatalf("%+v, behind %v, can't do %d any more: %d", now, m, d.Deed, err)
			}
			all = part.Do(all, d.Parts)
		}
		for _, sum := range now.Sums {
			if sum < 0 || sum > most {
				t.Fatalf("%+v, behind %v, has a sum of %d", now, m, sum)
			}
		}
		for _, d := range before.Ready {
			ended := d.Deed == m.Deed && (m.Kind == api.MsgCommit || m.Kind == api.MsgAbort)
			if isReady(now, d.Deed) == ended {
				t.Fatalf("%+v hears %v, and is ready for %v", before, m, now.Ready)
			}
		}
		if n := len(before.Done); !slices.Equal(now.Done[:n], before.Done) {
			t.Fatalf("%+v hears %v, and did %v", before, m, now.Done)
		}
	})
}

// TestSaysWhatIs: a house that says yes is ready, one that says no is not, and one that says it did a deed did it, once; all of that is in its log.
func TestSaysWhatIs(t *testing.T) {
	everyWay(5, func(before api.House, m api.Msg, now api.House, said []api.Msg) {
		if told(log.House(now.Log)) != told(now) {
			t.Fatalf("%+v is not what its log makes", now)
		}
		if n := len(before.Log); len(now.Log) < n || len(now.Log) > n+1 || told(now.Log[:n]) != told(before.Log) {
			t.Fatalf("%+v hears %v, and its log is %v", before, m, now.Log)
		}
		times := 0
		for _, deed := range now.Done {
			if deed == m.Deed {
				times++
			}
		}
		kind := 0
		for _, s := range said {
			kind = s.Kind
		}
		if len(said) > 1 || times > 1 ||
			kind == api.MsgYes && !isReady(now, m.Deed) ||
			kind == api.MsgNo && (isReady(now, m.Deed) || times == 1) ||
			(kind == api.MsgAck) != (m.Kind == api.MsgCommit && times == 1) {
			t.Fatalf("%+v hears %v and is %+v, saying %v", before, m, now, said)
		}
	})
}

// partLists are all lists of parts of a house.
func partLists(h api.House) [][]api.Part {
	var out [][]api.Part
	for _, r := range h.Log {
		out = append(out, r.Parts)
	}
	for _, d := range h.Ready {
		out = append(out, d.Parts)
	}
	return out
}

// spoil writes over all of a list, its spare room too.
func spoil[T any](l []T, with T) {
	l = l[:cap(l)]
	for i := range l {
		l[i] = with
	}
}

// spoilHouse writes over all that a house has.
func spoilHouse(h api.House) {
	for _, l := range partLists(h) {
		spoil(l, at(7, 7))
	}
	spoil(h.Log, rec(7, 7))
	spoil(h.Ready, api.Ready{Deed: 7})
	spoil(h.Done, 7)
}

// crowded is a house with room behind all its lists that holds something else: it must neither be looked at nor be changed.
func crowded() api.House {
	h := log.House(some())
	for i := range h.Log {
		h.Log[i].Parts = append(slices.Clone(h.Log[i].Parts), at(1, 9), at(3, 9))[:len(h.Log[i].Parts)]
	}
	for i := range h.Ready {
		h.Ready[i].Parts = append(slices.Clone(h.Ready[i].Parts), at(1, 9), at(3, 9))[:len(h.Ready[i].Parts)]
	}
	h.Log = append(h.Log, done(66), drop(65))[:len(h.Log)]
	h.Ready = append(h.Ready, api.Ready{Deed: 68, Parts: parts(at(1, 1))})[:len(h.Ready)]
	h.Done = append(h.Done, 67, 68)[:len(h.Done)]
	return h
}

// roomy is how a house is told with the room behind its lists.
func roomy(h api.House) string {
	out := told(h.Log[:cap(h.Log)], h.Ready[:cap(h.Ready)], h.Done[:cap(h.Done)], h.Sums)
	for _, l := range partLists(h) {
		out += told(l[:cap(l)])
	}
	return out
}

// crowdedMsgs are messages of all kinds, of which something is noted, or nothing, with room behind their parts.
func crowdedMsgs() []api.Msg {
	var out []api.Msg
	for deed := 63; deed < 70; deed++ {
		for kind := 0; kind < 9; kind++ {
			out = append(out, msg(kind, deed, parts(at(1, -1), at(1, 9), at(2, 2))[:1]...))
		}
	}
	return out
}

func TestOnlyRead(t *testing.T) {
	h, clean := crowded(), log.House(some())
	before := roomy(h)
	for _, m := range crowdedMsgs() {
		room := told(m.Parts[:cap(m.Parts)])
		now, said := Hear(h, 2, m)
		want, says := Hear(clean, 2, msg(m.Kind, m.Deed, slices.Clone(m.Parts)...))
		if told(now, said) != told(want, says) {
			t.Errorf("%v, with room behind the lists: %+v, %v, not %+v, %v", m, now, said, want, says)
		}
		if got, want := Vote(h, m.Deed, m.Parts), Vote(clean, m.Deed, slices.Clone(m.Parts)); got != want {
			t.Errorf("Vote of %v, with room behind the lists, is %d, not %d", m, got, want)
		}
		spoilHouse(now)
		spoil(said, msg(7, 7))
		if roomy(h) != before || told(m.Parts[:cap(m.Parts)]) != room {
			t.Fatalf("behind %v what was handed in is %s, %v", m, roomy(h), m.Parts[:cap(m.Parts)])
		}
	}
	asked := Tick(h, 2)
	if told(asked) != told(Tick(clean, 2)) {
		t.Errorf("Tick, with room behind the lists, is %v", asked)
	}
	spoil(asked, msg(7, 7))
	if roomy(h) != before {
		t.Errorf("behind Tick what was handed in is %s", roomy(h))
	}
}

// TestNothingKept: what is handed in may be changed behind the call, and answers stay as they are.
func TestNothingKept(t *testing.T) {
	for _, m := range crowdedMsgs() {
		h := crowded()
		now, said := Hear(h, 0, m)
		asked := Tick(h, 0)
		want := told(now, said, asked)
		spoilHouse(h)
		spoil(m.Parts, at(6, 6))
		if got := told(now, said, asked); got != want {
			t.Errorf("%v: the answer is %s now, not %s", m, got, want)
		}
	}
}

// TestNothingShared: no two lists of one answer have memory in common.
func TestNothingShared(t *testing.T) {
	for _, m := range crowdedMsgs() {
		now, said := Hear(crowded(), 0, m)
		lists := partLists(now)
		for _, s := range said {
			lists = append(lists, s.Parts)
		}
		for i, l := range lists {
			spoil(l, at(i, i))
		}
		for i, l := range lists {
			if slices.ContainsFunc(l[:cap(l)], func(p api.Part) bool { return p != at(i, i) }) {
				t.Fatalf("%v: parts %d of %+v are also another list's", m, i, now)
			}
		}
	}
}

// TestNoPanic: of houses that no log makes, and wrong messages, nothing is promised, but no call panics over them.
func TestNoPanic(t *testing.T) {
	edges := []int{math.MinInt, -1, 0, 1, 3, 4, math.MaxInt}
	var wild []api.Part
	for _, key := range edges {
		for _, n := range edges {
			wild = append(wild, at(key, n), api.Part{House: n, Key: key, N: key})
		}
	}
	full := api.House{Sums: [4]int{math.MinInt, math.MaxInt, -1, 0}, Done: []int{-1, 4}}
	for _, deed := range edges {
		for kind := range 8 {
			full.Log = append(full.Log, rec(kind, deed, wild...), rec(kind, deed))
		}
		full.Ready = append(full.Ready, api.Ready{Deed: deed, Parts: wild}, api.Ready{Deed: deed})
	}
	for _, h := range []api.House{{}, {Log: full.Log}, {Sums: full.Sums}, {Ready: full.Ready}, {Ready: full.Ready[2:4], Done: full.Done}, full} {
		for _, n := range edges {
			Tick(h, n)
			for kind := -1; kind < 9; kind++ {
				Hear(h, n, api.Msg{Kind: kind, Deed: n, House: n, Parts: wild})
				Hear(h, n, msg(kind, n))
				Hear(h, n, msg(kind, 2, wild[3:]...))
			}
			Vote(h, n, wild)
			Vote(h, 2, wild)
			Vote(h, 2, nil)
		}
	}
}
