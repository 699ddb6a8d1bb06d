package head

import (
	"fmt"
	"math"
	"slices"
	"testing"

	"allornone/api"
	"allornone/log"
	"allornone/part"
	"allornone/wire"
)

const most = api.MaxSum

// at is a part, written short; so are records, deeds and messages below.
func at(house, key, n int) api.Part { return api.Part{House: house, Key: key, N: n} }

func parts(l ...api.Part) []api.Part { return l }

func rec(kind, deed int, l ...api.Part) api.Rec { return api.Rec{Kind: kind, Deed: deed, Parts: l} }

func recs(l ...api.Rec) []api.Rec { return l }

func boots() api.Rec { return rec(api.RecBoot, 0) }

func msg(kind, deed, house int, l ...api.Part) api.Msg {
	return api.Msg{Kind: kind, Deed: deed, House: house, Parts: l}
}

func msgs(l ...api.Msg) []api.Msg { return l }

// open and decided are deeds that a head is at.
func open(deed int, l []api.Part, heard ...int) api.Open {
	return api.Open{Deed: deed, Parts: l, Heard: heard}
}

func decided(deed int, l []api.Part, heard ...int) api.Open {
	return api.Open{Deed: deed, Parts: l, Decided: true, Heard: heard}
}

func opens(l ...api.Open) []api.Open { return l }

// told is how a value is told; nil and empty lists are told alike.
func told(x ...any) string { return fmt.Sprintf("%+v", x) }

// The parts of deeds: of three houses, not rising, with two parts at one of them; of two; of one.
func three() []api.Part { return parts(at(2, 1, 6), at(0, 3, -5), at(2, 0, most), at(1, 1, 0)) }

func two() []api.Part { return parts(at(2, 2, 2), at(1, 1, 1)) }

func one() []api.Part { return parts(at(1, 0, -most)) }

// begun is what comes of a head that begins these deeds, one behind the other.
func begun(t *testing.T, h api.Head, deeds ...[]api.Part) api.Head {
	t.Helper()
	for _, l := range deeds {
		now, _, err := Begin(h, l)
		if err != api.OK {
			t.Fatalf("Begin(%+v, %v) is %d", h, l, err)
		}
		h = now
	}
	return h
}

// hears is what comes of a head that hears these messages, one behind the other.
func hears(h api.Head, l ...api.Msg) api.Head {
	for _, m := range l {
		h, _ = Hear(h, m)
	}
	return h
}

func yes(deed, house int) api.Msg { return msg(api.MsgYes, deed, house) }

func no(deed, house int) api.Msg { return msg(api.MsgNo, deed, house) }

func ack(deed, house int) api.Msg { return msg(api.MsgAck, deed, house) }

func ask(deed, house int) api.Msg { return msg(api.MsgAsk, deed, house) }

// some is a head with a deed of three houses, two of which said yes; a decided one, that one of two did; one that nobody answered; and one that ended.
func some(t *testing.T) api.Head {
	t.Helper()
	h := begun(t, New(), one(), three(), two(), one())
	return hears(h, yes(64, 1), ack(64, 1), yes(65, 2), yes(65, 0), yes(66, 1), yes(66, 2), ack(66, 2))
}

// someLog is the log of some.
func someLog() []api.Rec {
	return recs(boots(), rec(api.RecCommit, 64, one()...), rec(api.RecEnd, 64), rec(api.RecCommit, 66, two()...))
}

func TestSome(t *testing.T) {
	want := api.Head{Log: someLog(), Boot: 1, Next: 4, Open: opens(open(65, three(), 2, 0), decided(66, two(), 2), open(67, one()))}
	if got := some(t); told(got) != told(want) {
		t.Errorf("some is %+v, not %+v", got, want)
	}
}

func TestNew(t *testing.T) {
	want := api.Head{Log: recs(boots()), Boot: 1}
	if got := New(); told(got) != told(want) {
		t.Errorf("New is %+v, not %+v", got, want)
	}
}

func TestOwn(t *testing.T) {
	for _, h := range []api.Head{New(), some(t), {}, {Log: []api.Rec{}, Open: []api.Open{}}, {Boot: 5, Next: 9, Open: opens(open(329, two()))}} {
		if got := Own(h); told(got) != told(h) {
			t.Errorf("Own(%+v) is %+v", h, got)
		}
	}
}

func TestFall(t *testing.T) {
	for _, c := range []struct {
		name string
		h    api.Head
		want api.Head
	}{
		{"a new one", New(), api.Head{Log: recs(boots(), boots()), Boot: 2}},
		{"what is not decided is forgotten", begun(t, New(), three(), two()), api.Head{Log: recs(boots(), boots()), Boot: 2}},
		{"what is decided is not, but who did it is", some(t), api.Head{Log: append(someLog(), boots()), Boot: 2, Open: opens(decided(66, two()))}},
	} {
		if got, err := Fall(c.h); told(got) != told(c.want) || err != api.OK {
			t.Errorf("%s: Fall(%+v) is %+v, %d, not %+v", c.name, c.h, got, err, c.want)
		}
	}
}

// fallen is a head that is at that boot, and decided a deed in its first one.
func fallen(t *testing.T, boot int) api.Head {
	t.Helper()
	h := some(t)
	for h.Boot < boot {
		now, err := Fall(h)
		if err != api.OK || now.Boot != h.Boot+1 || now.Next != 0 || len(now.Log) != len(h.Log)+1 {
			t.Fatalf("Fall(%+v) is %+v, %d", h, now, err)
		}
		h = now
	}
	return h
}

func TestFallTooOften(t *testing.T) {
	if h := fallen(t, api.MaxBoots-1); h.Boot != 19 {
		t.Fatalf("the last boot but one is %d", h.Boot)
	}
	last := begun(t, fallen(t, api.MaxBoots), three(), one())
	last = hears(last, yes(1280, 1), ack(66, 1))
	more := last
	more.Boot++
	for _, h := range []api.Head{last, more} {
		if got, err := Fall(h); err != api.ErrMany || told(got) != told(h) {
			t.Errorf("Fall(%+v) is %+v, %d, not the same, %d", h, got, err, api.ErrMany)
		}
	}
}

func TestBegin(t *testing.T) {
	twin := parts(at(0, 3, 1), at(0, 0, -1), at(0, 1, 0), at(0, 2, most))
	for _, c := range []struct {
		name string
		h    api.Head
		l    []api.Part
		deed int
		says []api.Msg
	}{
		{"the first one", New(), one(), 64, msgs(msg(api.MsgPrepare, 64, 1, one()...))},
		{"of three houses, rising", New(), three(), 64, msgs(msg(api.MsgPrepare, 64, 0, at(0, 3, -5)), msg(api.MsgPrepare, 64, 1, at(1, 1, 0)), msg(api.MsgPrepare, 64, 2, at(2, 1, 6), at(2, 0, most)))},
		{"all at one house, in turn", New(), twin, 64, msgs(msg(api.MsgPrepare, 64, 0, twin...))},
		{"beside others", some(t), two(), 68, msgs(msg(api.MsgPrepare, 68, 1, at(1, 1, 1)), msg(api.MsgPrepare, 68, 2, at(2, 2, 2)))},
		{"the same parts as another", some(t), one(), 68, msgs(msg(api.MsgPrepare, 68, 1, one()...))},
		{"behind a fall", fallen(t, 2), one(), 128, msgs(msg(api.MsgPrepare, 128, 1, one()...))},
		{"behind the last fall", fallen(t, api.MaxBoots), one(), 1280, msgs(msg(api.MsgPrepare, 1280, 1, one()...))},
	} {
		want := Own(c.h)
		want.Open = append(want.Open, open(c.deed, c.l))
		want.Next++
		got, says, err := Begin(c.h, c.l)
		if told(got, says, err) != told(want, c.says, api.OK) {
			t.Errorf("%s: Begin(%+v, %v) is %+v, %v, %d, not %+v, %v", c.name, c.h, c.l, got, says, err, want, c.says)
		}
	}
}

// full is a head that is at that many deeds.
func full(t *testing.T, n int) api.Head {
	t.Helper()
	h := New()
	for range n {
		h = begun(t, h, two())
	}
	return h
}

// spent is a head that began so many deeds, and gave all of them up.
func spent(t *testing.T, n int) api.Head {
	t.Helper()
	h := New()
	for range n {
		h, _ = Quit(begun(t, h, one()))
	}
	return h
}

func TestBeginFull(t *testing.T) {
	half := hears(full(t, api.MaxDeeds), yes(64, 1), yes(64, 2), ack(64, 2))
	more := full(t, api.MaxDeeds)
	more.Open = append(more.Open, open(90, one()))
	for _, c := range []struct {
		name string
		h    api.Head
	}{
		{"as many as may be", full(t, api.MaxDeeds)},
		{"decided ones count", half},
		{"more than may be", more},
		{"no number is left", spent(t, api.EachBoot)},
		{"neither room nor number", api.Head{Next: api.EachBoot, Open: full(t, api.MaxDeeds).Open}},
	} {
		if got, says, err := Begin(c.h, one()); err != api.ErrFull || told(got) != told(c.h) || len(says) > 0 {
			t.Errorf("%s: Begin(%+v) is %+v, %v, %d, not the same, %d", c.name, c.h, got, says, err, api.ErrFull)
		}
	}
	for _, c := range []struct {
		name string
		h    api.Head
		deed int
	}{
		{"room for one", full(t, api.MaxDeeds-1), 75},
		{"room for one, when one ended", hears(half, ack(64, 1)), 76},
		{"room for one, when one is given up", hears(half, no(70, 1)), 76},
		{"a last number", spent(t, api.EachBoot-1), 127},
	} {
		got, says, err := Begin(c.h, one())
		if err != api.OK || len(says) != 1 || got.Open[len(got.Open)-1].Deed != c.deed {
			t.Errorf("%s: Begin(%+v) is %+v, %v, %d", c.name, c.h, got, says, err)
		}
	}
	now, err := Fall(spent(t, api.EachBoot))
	if now, _, err = Begin(now, one()); err != api.OK || now.Open[0].Deed != 128 {
		t.Errorf("no number is left, and it falls: Begin is %+v, %d", now, err)
	}
}

func TestTick(t *testing.T) {
	for _, c := range []struct {
		name string
		h    api.Head
		want []api.Msg
	}{
		{"a new one", New(), nil},
		{"nobody answered", begun(t, New(), two(), one()), msgs(msg(api.MsgPrepare, 64, 1, at(1, 1, 1)), msg(api.MsgPrepare, 64, 2, at(2, 2, 2)), msg(api.MsgPrepare, 65, 1, one()...))},
		{"who answered is not asked", some(t), msgs(msg(api.MsgPrepare, 65, 1, at(1, 1, 0)), msg(api.MsgCommit, 66, 1), msg(api.MsgPrepare, 67, 1, one()...))},
		{"decided, all are asked again", hears(begun(t, New(), two()), yes(64, 2), yes(64, 1)), msgs(msg(api.MsgCommit, 64, 1), msg(api.MsgCommit, 64, 2))},
		{"fallen, all are asked again", fallen(t, 2), msgs(msg(api.MsgCommit, 66, 1), msg(api.MsgCommit, 66, 2))},
	} {
		if got := Tick(c.h); told(got) != told(c.want) {
			t.Errorf("%s: Tick(%+v) is %v, not %v", c.name, c.h, got, c.want)
		}
	}
}

func TestQuit(t *testing.T) {
	for _, c := range []struct {
		name string
		h    api.Head
		left []api.Open
		says []api.Msg
	}{
		{"a new one", New(), nil, nil},
		{"nobody answered", begun(t, New(), two(), one()), nil, msgs(msg(api.MsgAbort, 64, 1), msg(api.MsgAbort, 64, 2), msg(api.MsgAbort, 65, 1))},
		{"all are told, whoever answered", some(t), opens(decided(66, two(), 2)), msgs(msg(api.MsgAbort, 65, 0), msg(api.MsgAbort, 65, 1), msg(api.MsgAbort, 65, 2), msg(api.MsgAbort, 67, 1))},
		{"decided ones stay", fallen(t, 2), opens(decided(66, two())), nil},
	} {
		want := Own(c.h)
		want.Open = c.left
		got, says := Quit(c.h)
		if told(got, says) != told(want, c.says) {
			t.Errorf("%s: Quit(%+v) is %+v, %v, not %+v, %v", c.name, c.h, got, says, want, c.says)
		}
		if got, says = Quit(got); told(got) != told(want) || len(says) > 0 {
			t.Errorf("%s: a second Quit is %+v, %v", c.name, got, says)
		}
	}
}

// heard is what a head must be at, note, and say behind a message.
type heard struct {
	name  string
	m     api.Msg
	open  []api.Open
	noted []api.Rec
	says  []api.Msg
}

// hearings are of the head some.
func hearings() []heard {
	a, b, c := open(65, three(), 2, 0), decided(66, two(), 2), open(67, one())
	same := opens(a, b, c)
	return []heard{
		{"yes, the last one", yes(65, 1), opens(decided(65, three()), b, c), recs(rec(api.RecCommit, 65, three()...)), msgs(msg(api.MsgCommit, 65, 0), msg(api.MsgCommit, 65, 1), msg(api.MsgCommit, 65, 2))},
		{"yes, the only one", yes(67, 1), opens(a, b, decided(67, one())), recs(rec(api.RecCommit, 67, one()...)), msgs(msg(api.MsgCommit, 67, 1))},
		{"yes, twice", yes(65, 2), same, nil, nil},
		{"yes, twice, the later one", yes(65, 0), same, nil, nil},
		{"yes, of no house of it", yes(67, 0), same, nil, nil},
		{"yes, decided", yes(66, 1), same, nil, nil},
		{"yes, decided, and done there", yes(66, 2), same, nil, nil},
		{"yes, ended", yes(64, 1), same, nil, nil},
		{"yes, never begun", yes(68, 1), same, nil, nil},
		{"no", no(65, 1), opens(b, c), nil, msgs(msg(api.MsgAbort, 65, 0), msg(api.MsgAbort, 65, 1), msg(api.MsgAbort, 65, 2))},
		{"no, behind a yes", no(65, 2), opens(b, c), nil, msgs(msg(api.MsgAbort, 65, 0), msg(api.MsgAbort, 65, 1), msg(api.MsgAbort, 65, 2))},
		{"no, the last deed", no(67, 1), opens(a, b), nil, msgs(msg(api.MsgAbort, 67, 1))},
		{"no, of no house of it", no(67, 2), opens(a, b), nil, msgs(msg(api.MsgAbort, 67, 1))},
		{"no, decided", no(66, 1), same, nil, nil},
		{"no, ended", no(64, 1), same, nil, nil},
		{"no, never begun", no(68, 1), same, nil, nil},
		{"done, the last one", ack(66, 1), opens(a, c), recs(rec(api.RecEnd, 66)), nil},
		{"done, twice", ack(66, 2), same, nil, nil},
		{"done, of no house of it", ack(66, 0), same, nil, nil},
		{"done, not decided", ack(65, 1), same, nil, nil},
		{"done, not decided, of one that said yes", ack(65, 2), same, nil, nil},
		{"done, ended", ack(64, 1), same, nil, nil},
		{"done, never begun", ack(0, 1), same, nil, nil},
		{"asked, decided", ask(66, 1), same, nil, msgs(msg(api.MsgCommit, 66, 1))},
		{"asked, decided, and done there", ask(66, 2), same, nil, msgs(msg(api.MsgCommit, 66, 2))},
		{"asked, decided, of no house of it", ask(66, 0), same, nil, msgs(msg(api.MsgCommit, 66, 0))},
		{"asked, not decided", ask(65, 0), same, nil, nil},
		{"asked, not decided, and not heard", ask(67, 1), same, nil, nil},
		{"asked, ended", ask(64, 1), same, nil, msgs(msg(api.MsgAbort, 64, 1))},
		{"asked, never begun", ask(68, 2), same, nil, msgs(msg(api.MsgAbort, 68, 2))},
		{"asked, number 0", ask(0, 0), same, nil, msgs(msg(api.MsgAbort, 0, 0))},
		{"asked, the last number", ask(1343, 2), same, nil, msgs(msg(api.MsgAbort, 1343, 2))},
	}
}

func TestHear(t *testing.T) {
	for _, c := range hearings() {
		if err := wire.Wrong(c.m); err != api.OK {
			t.Fatalf("%s: %v is not right: %d", c.name, c.m, err)
		}
		want := some(t)
		want.Open = c.open
		want.Log = append(want.Log, c.noted...)
		got, says := Hear(some(t), c.m)
		if told(got, says) != told(want, c.says) {
			t.Errorf("%s: %v makes %+v, saying %v, not %+v, saying %v", c.name, c.m, got, says, want, c.says)
		}
	}
}

// TestHeardLast: houses are Heard in the turn in which they answer, not rising.
func TestHeardLast(t *testing.T) {
	for _, turn := range [][]int{{0, 1}, {1, 0}, {2, 1}, {2, 0}, {1, 2}, {0, 2}} {
		h := begun(t, New(), three())
		h = hears(h, yes(64, turn[0]), yes(64, turn[1]))
		if want := opens(open(64, three(), turn...)); told(h.Open) != told(want) {
			t.Errorf("yes of %v: %+v, not %+v", turn, h.Open, want)
		}
		h = hears(h, yes(64, 3-turn[0]-turn[1]), ack(64, turn[0]), ack(64, turn[1]))
		if want := opens(decided(64, three(), turn...)); told(h.Open) != told(want) {
			t.Errorf("done by %v: %+v, not %+v", turn, h.Open, want)
		}
	}
}

// TestOthers: kinds that are not for the head, or are none, change nothing, and nothing is said to them.
func TestOthers(t *testing.T) {
	h := some(t)
	for _, kind := range []int{math.MinInt, -1, 0, api.MsgPrepare, api.MsgCommit, api.MsgAbort, 8, math.MaxInt} {
		for deed := 63; deed < 69; deed++ {
			for house := range api.MaxHouses {
				for _, m := range []api.Msg{msg(kind, deed, house), msg(kind, deed, house, at(house, 1, 1))} {
					if got, says := Hear(h, m); told(got) != told(h) || len(says) > 0 {
						t.Errorf("%v makes %+v, saying %v", m, got, says)
					}
				}
			}
		}
	}
}

// TestFieldsThatMeanNothing: parts of what has none neither count, nor get into the log, nor are said.
func TestFieldsThatMeanNothing(t *testing.T) {
	for _, c := range hearings() {
		more := c.m
		more.Parts = parts(at(1, 3, 7), at(0, 0, 1))
		want, says := Hear(some(t), c.m)
		if got, said := Hear(some(t), more); told(got, said) != told(want, says) {
			t.Errorf("%s: with parts %+v, saying %v, not %+v, saying %v", c.name, got, said, want, says)
		}
	}
}

// act is something that a head goes through.
type act struct {
	name string
	do   func(api.Head) (api.Head, []api.Msg)
}

// acts are all that a head may go through, with messages of its first three deeds.
func acts() []act {
	out := []act{
		{"begin two", func(h api.Head) (api.Head, []api.Msg) { h, l, _ := Begin(h, two()); return h, l }},
		{"begin one", func(h api.Head) (api.Head, []api.Msg) { h, l, _ := Begin(h, one()); return h, l }},
		{"fall", func(h api.Head) (api.Head, []api.Msg) { h, _ = Fall(h); return h, nil }},
		{"quit", Quit},
	}
	for _, m := range msgs(yes(64, 1), yes(64, 2), no(64, 2), ack(64, 1), ack(64, 2), ask(64, 1), yes(65, 1), ack(65, 1), yes(128, 1)) {
		out = append(out, act{told(m), func(h api.Head) (api.Head, []api.Msg) { return Hear(h, m) }})
	}
	return out
}

// everyWay calls look with each head that comes of so many acts, or fewer: the head ahead, what it went through, and what came of it.
func everyWay(n int, look func(before api.Head, what string, now api.Head, said []api.Msg)) {
	all := acts()
	var grow func(h api.Head, n int)
	grow = func(h api.Head, n int) {
		if n == 0 {
			return
		}
		for _, a := range all {
			now, said := a.do(h)
			look(h, a.name, now, said)
			grow(now, n-1)
		}
	}
	grow(New(), n)
}

// TestLasts: a log only grows, by one record at most, and what is Decided, and open, is what it makes.
func TestLasts(t *testing.T) {
	everyWay(5, func(before api.Head, what string, now api.Head, said []api.Msg) {
		if n := len(before.Log); len(now.Log) < n || len(now.Log) > n+1 || told(now.Log[:n]) != told(before.Log) {
			t.Fatalf("%+v: %s makes the log %v", before, what, now.Log)
		}
		made := log.Head(now.Log)
		lasting := map[int]bool{}
		for _, o := range now.Open {
			if lasting[o.Deed] = o.Decided; o.Decided != slices.ContainsFunc(made.Open, func(x api.Open) bool { return told(x.Deed, x.Parts) == told(o.Deed, o.Parts) }) {
				t.Fatalf("%+v: %s makes %+v, and its log %+v", before, what, now.Open, made.Open)
			}
		}
		for _, x := range made.Open {
			if !lasting[x.Deed] {
				t.Fatalf("%+v: %s makes %+v, and its log %+v", before, what, now.Open, made.Open)
			}
		}
		if now.Boot != made.Boot {
			t.Fatalf("%+v: %s makes boot %d, and its log %d", before, what, now.Boot, made.Boot)
		}
	})
}

// TestNoNumberTwice: the next number only rises, also where the head falls, and no two open deeds have one.
func TestNoNumberTwice(t *testing.T) {
	next := func(h api.Head) int { return api.EachBoot*h.Boot + h.Next }
	everyWay(5, func(before api.Head, what string, now api.Head, said []api.Msg) {
		if next(now) < next(before) {
			t.Fatalf("%+v: %s makes %+v", before, what, now)
		}
		seen := map[int]bool{}
		for _, o := range now.Open {
			if o.Deed >= next(now) || seen[o.Deed] {
				t.Fatalf("%+v: %s opens %+v", before, what, now.Open)
			}
			seen[o.Deed] = true
		}
	})
}

// TestSaysWhatIs: what is said is right; of an open deed that is decided only a commit is said, and of no other one.
func TestSaysWhatIs(t *testing.T) {
	everyWay(5, func(before api.Head, what string, now api.Head, said []api.Msg) {
		for _, m := range slices.Concat(said, Tick(now)) {
			sure := slices.ContainsFunc(now.Open, func(o api.Open) bool { return o.Deed == m.Deed && o.Decided })
			if wire.Wrong(m) != api.OK || sure != (m.Kind == api.MsgCommit) {
				t.Fatalf("%+v: %s makes %+v, saying %v", before, what, now, m)
			}
		}
	})
}

// TestTwice: the same message a second time changes nothing.
func TestTwice(t *testing.T) {
	ms := msgs(yes(64, 1), yes(64, 2), no(64, 2), ack(64, 1), ack(64, 2), ask(64, 1), yes(65, 1), ack(65, 1))
	everyWay(4, func(before api.Head, what string, now api.Head, said []api.Msg) {
		for _, m := range ms {
			once, _ := Hear(now, m)
			if again, _ := Hear(once, m); told(again) != told(once) {
				t.Fatalf("%+v hears %v twice, and is %+v, not %+v", now, m, again, once)
			}
		}
	})
}

// TestAllSaidYes: a deed is decided when all its houses said yes, in whatever turn, and no sooner; it ends when all did it, and no sooner.
func TestAllSaidYes(t *testing.T) {
	for _, l := range [][]api.Part{one(), two(), three()} {
		houses := part.Houses(l)
		turns(houses, func(turn []int) {
			h := begun(t, New(), l)
			for i, house := range turn {
				now, said := Hear(h, yes(64, house))
				last := i == len(turn)-1
				if now.Open[0].Decided != last || len(now.Log) == 2 != last || len(said) > 0 != last {
					t.Fatalf("%v: yes of %d makes %+v, saying %v", turn, house, now, said)
				}
				h = now
			}
			for i, house := range turn {
				now, said := Hear(h, ack(64, house))
				last := i == len(turn)-1
				if len(now.Open) == 0 != last || len(now.Log) == 3 != last || len(said) > 0 {
					t.Fatalf("%v: done by %d makes %+v, saying %v", turn, house, now, said)
				}
				h = now
			}
		})
	}
}

// turns calls look with each turn in which houses may answer.
func turns(houses []int, look func([]int)) {
	var grow func(l []int)
	grow = func(l []int) {
		if len(l) == len(houses) {
			look(l)
			return
		}
		for _, house := range houses {
			if !slices.Contains(l, house) {
				grow(append(slices.Clone(l), house))
			}
		}
	}
	grow(nil)
}

// spoil writes over all of a list, its spare room too.
func spoil[T any](l []T, with T) {
	l = l[:cap(l)]
	for i := range l {
		l[i] = with
	}
}

// partLists are all lists of parts of a head, and of what it says.
func partLists(h api.Head, said []api.Msg) [][]api.Part {
	var out [][]api.Part
	for _, r := range h.Log {
		out = append(out, r.Parts)
	}
	for _, o := range h.Open {
		out = append(out, o.Parts)
	}
	for _, m := range said {
		out = append(out, m.Parts)
	}
	return out
}

// spoilAll writes over all that a head has, and what it says.
func spoilAll(h api.Head, said []api.Msg) {
	for _, l := range partLists(h, said) {
		spoil(l, at(7, 7, 7))
	}
	for _, o := range h.Open {
		spoil(o.Heard, 7)
	}
	spoil(h.Log, rec(7, 7))
	spoil(h.Open, open(7, nil))
	spoil(said, msg(7, 7, 7))
}

// roomyParts are parts with room behind them that holds something else.
func roomyParts(l []api.Part) []api.Part {
	return append(slices.Clone(l), at(0, 1, 9), at(1, 3, 9))[:len(l)]
}

// crowded is some with room behind all its lists that holds something else: it must neither be looked at nor be changed.
func crowded(t *testing.T) api.Head {
	t.Helper()
	h := some(t)
	for i := range h.Log {
		h.Log[i].Parts = roomyParts(h.Log[i].Parts)
	}
	for i := range h.Open {
		h.Open[i].Parts = roomyParts(h.Open[i].Parts)
		n := len(h.Open[i].Heard)
		h.Open[i].Heard = append(slices.Clone(h.Open[i].Heard), 1, 1, 1, 1)[:n]
	}
	h.Log = append(h.Log, rec(api.RecEnd, 66), boots())[:len(h.Log)]
	h.Open = append(h.Open, open(68, two()))[:len(h.Open)]
	return h
}

// roomy is how a head is told with the room behind its lists.
func roomy(h api.Head) string {
	out := told(h.Boot, h.Next, h.Log[:cap(h.Log)], h.Open[:cap(h.Open)])
	for _, l := range partLists(h, nil) {
		out += told(l[:cap(l)])
	}
	for _, o := range h.Open {
		out += told(o.Heard[:cap(o.Heard)])
	}
	return out
}

// calls are all that may be asked of a head.
func calls() []act {
	out := []act{
		{"own", func(h api.Head) (api.Head, []api.Msg) { return Own(h), nil }},
		{"fall", func(h api.Head) (api.Head, []api.Msg) { h, _ = Fall(h); return h, nil }},
		{"fall too often", func(h api.Head) (api.Head, []api.Msg) { h.Boot = api.MaxBoots; h, _ = Fall(h); return h, nil }},
		{"begin", func(h api.Head) (api.Head, []api.Msg) { h, l, _ := Begin(h, three()); return h, l }},
		{"begin, no number left", func(h api.Head) (api.Head, []api.Msg) {
			h.Next = api.EachBoot
			h, l, _ := Begin(h, three())
			return h, l
		}},
		{"tick", func(h api.Head) (api.Head, []api.Msg) { return New(), Tick(h) }},
		{"quit", Quit},
	}
	for deed := 63; deed < 69; deed++ {
		for kind := range 9 {
			for house := range api.MaxHouses {
				m := msg(kind, deed, house)
				out = append(out, act{told(m), func(h api.Head) (api.Head, []api.Msg) { return Hear(h, m) }})
			}
		}
	}
	return out
}

func TestOnlyRead(t *testing.T) {
	h, clean := crowded(t), some(t)
	before := roomy(h)
	for _, c := range calls() {
		now, said := c.do(h)
		want, says := c.do(clean)
		if told(now, said) != told(want, says) {
			t.Errorf("%s, with room behind the lists: %+v, %v, not %+v, %v", c.name, now, said, want, says)
		}
		spoilAll(now, said)
		if roomy(h) != before {
			t.Fatalf("behind %s what was handed in is %s", c.name, roomy(h))
		}
	}
}

// TestNothingKept: what is handed in may be changed behind the call, and answers stay as they are.
func TestNothingKept(t *testing.T) {
	for _, c := range calls() {
		h := crowded(t)
		now, said := c.do(h)
		want := told(now, said)
		spoilAll(h, nil)
		if got := told(now, said); got != want {
			t.Errorf("%s: the answer is %s now, not %s", c.name, got, want)
		}
	}
	l := roomyParts(two())
	now, said, _ := Begin(New(), l)
	want := told(now, said, parts(at(0, 1, 9), at(1, 3, 9)))
	if got := told(now, said, l[2:4]); got != want {
		t.Errorf("Begin looks behind parts, or changes them: %s, not %s", got, want)
	}
	spoil(l, at(7, 7, 7))
	if got := told(now, said, parts(at(0, 1, 9), at(1, 3, 9))); got != want {
		t.Errorf("Begin keeps parts: the answer is %s now, not %s", got, want)
	}
}

// TestNothingShared: no two lists of one answer have memory in common.
func TestNothingShared(t *testing.T) {
	for _, c := range calls() {
		now, said := c.do(crowded(t))
		lists := partLists(now, said)
		for i, l := range lists {
			spoil(l, at(i, i, i))
		}
		for i, l := range lists {
			if slices.ContainsFunc(l[:cap(l)], func(p api.Part) bool { return p != at(i, i, i) }) {
				t.Fatalf("%s: parts %d of %+v, %v are also another list's", c.name, i, now, said)
			}
		}
		for i, o := range now.Open {
			spoil(o.Heard, i)
		}
		for i, o := range now.Open {
			if slices.ContainsFunc(o.Heard[:cap(o.Heard)], func(n int) bool { return n != i }) {
				t.Fatalf("%s: who is heard of %d is also another list", c.name, o.Deed)
			}
		}
	}
}

// TestNewIsNew: what one New answers is not what another one does.
func TestNewIsNew(t *testing.T) {
	h := New()
	spoilAll(h, nil)
	if got := New(); told(got.Log) != told(recs(boots())) {
		t.Errorf("New, when another one was changed, is %+v", got)
	}
}

// TestNoPanic: of heads that none of these make, and of wrong parts and messages, nothing is promised, but no call panics over them.
func TestNoPanic(t *testing.T) {
	edges := []int{math.MinInt, -1, 0, 1, 3, 4, math.MaxInt}
	var wild []api.Part
	for _, house := range edges {
		for _, n := range edges {
			wild = append(wild, at(house, n, n), at(house, house, n))
		}
	}
	odd := api.Head{Boot: math.MaxInt, Next: math.MinInt}
	for _, deed := range edges {
		for kind := range 8 {
			odd.Log = append(odd.Log, rec(kind, deed, wild...), rec(kind, deed))
		}
		odd.Open = append(odd.Open, open(deed, wild, edges...), open(deed, nil), decided(deed, wild, 0, 0), decided(deed, nil))
	}
	heads := []api.Head{{}, odd, {Log: odd.Log}, {Boot: math.MinInt, Next: math.MaxInt}, {Boot: math.MaxInt, Next: 5, Open: odd.Open[:3]}, {Open: odd.Open[2:5]}}
	for _, deed := range edges {
		heads = append(heads, api.Head{Open: opens(open(deed, wild[3:5]), decided(deed, nil))}, api.Head{Open: opens(decided(deed, wild[:9], edges...))})
	}
	for _, h := range heads {
		for _, c := range calls() {
			c.do(h)
		}
		Begin(h, nil)
		Begin(h, wild)
		for _, n := range edges {
			for kind := -1; kind < 9; kind++ {
				for _, house := range edges {
					Hear(h, msg(kind, n, house, wild...))
				}
			}
		}
	}
}
