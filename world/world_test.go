package world

import (
	"fmt"
	"math"
	"slices"
	"testing"

	"allornone/api"
	"allornone/head"
	"allornone/house"
	"allornone/log"
	"allornone/model"
	"allornone/net"
	"allornone/part"
	"allornone/wire"
)

const most = api.MaxSum

// at is a part, written short; so are records, deeds, messages and steps below.
func at(house, key, n int) api.Part { return api.Part{House: house, Key: key, N: n} }

func parts(l ...api.Part) []api.Part { return l }

func rec(kind, deed int, l ...api.Part) api.Rec { return api.Rec{Kind: kind, Deed: deed, Parts: l} }

func recs(l ...api.Rec) []api.Rec { return l }

func boots() api.Rec { return rec(api.RecBoot, 0) }

func open(deed int, l []api.Part, heard ...int) api.Open {
	return api.Open{Deed: deed, Parts: l, Heard: heard}
}

func decided(deed int, l []api.Part, heard ...int) api.Open {
	return api.Open{Deed: deed, Parts: l, Decided: true, Heard: heard}
}

func opens(l ...api.Open) []api.Open { return l }

func msg(kind, deed, house int, l ...api.Part) api.Msg {
	return api.Msg{Kind: kind, Deed: deed, House: house, Parts: l}
}

func msgs(l ...api.Msg) []api.Msg { return l }

func does(kind, n int) api.Step { return api.Step{Kind: kind, N: n} }

func begins(l ...api.Part) api.Step { return api.Step{Kind: api.StepBegin, Parts: l} }

func comes(n int) api.Step { return does(api.StepCome, n) }

func falls(n int) api.Step { return does(api.StepFall, n) }

func ticks(n int) api.Step { return does(api.StepTick, n) }

func quits() api.Step { return does(api.StepQuit, 0) }

// told is how a value is told; nil and empty lists are told alike.
func told(x ...any) string { return fmt.Sprintf("%+v", x) }

// The parts of deeds: of three houses, not rising; of two; of one.
func three() []api.Part { return parts(at(2, 1, 6), at(0, 3, 5), at(1, 1, 0)) }

func two() []api.Part { return parts(at(1, 0, 2), at(0, 0, 7)) }

func one() []api.Part { return parts(at(0, 2, most)) }

// made is what comes of a new world that takes these steps, of which none may have an error.
func made(t *testing.T, houses int, l ...api.Step) api.World {
	t.Helper()
	w, err := New(houses)
	if err != api.OK {
		t.Fatalf("New(%d) is %d", houses, err)
	}
	return goes(t, w, l...)
}

// goes is what comes of a world that takes these steps, of which none may have an error.
func goes(t *testing.T, w api.World, l ...api.Step) api.World {
	t.Helper()
	for _, s := range l {
		now, err := Do(w, s)
		if err != api.OK {
			t.Fatalf("Do(%+v, %+v) is %d", w, s, err)
		}
		w = now
	}
	return w
}

// way is what is on its way, as messages.
func way(t *testing.T, w api.World) []api.Msg {
	t.Helper()
	var out []api.Msg
	for _, b := range w.Net {
		m, err := wire.Read(b)
		if err != api.OK {
			t.Fatalf("%v is on its way, which is %d", b, err)
		}
		out = append(out, m)
	}
	return out
}

// calm has message 0 come as long as there is one.
func calm(t *testing.T, w api.World) api.World {
	t.Helper()
	for range 1000 {
		if len(w.Net) == 0 {
			return w
		}
		w = goes(t, w, comes(0))
	}
	t.Fatalf("there is always something on its way: %+v", w)
	return w
}

// is holds a world against the one that it must be.
func is(t *testing.T, name string, got, want api.World) {
	t.Helper()
	if told(got) != told(want) {
		t.Errorf("%s:\n%s is\n%s, not\n%s", t.Name(), name, told(got), told(want))
	}
}

// stays: a step has that error, and the world is as it was.
func stays(t *testing.T, name string, w api.World, s api.Step, want api.Errno) {
	t.Helper()
	before := told(w)
	if got, err := Do(w, s); err != want || told(got) != before {
		t.Errorf("%s: Do(%s, %+v) is %s, %d, not the same, %d", name, before, s, told(got), err, want)
	}
}

// some is a world of three houses with deeds at all stages: 64 is done, and ended; 65 is decided, and done at one house; 66 is asked; 67 is refused at house 0, which nobody knows yet.
func some(t *testing.T) api.World {
	t.Helper()
	w := calm(t, made(t, 3, begins(two()...)))
	w = goes(t, w, begins(three()...), comes(0), comes(0), comes(0), comes(0), comes(0), comes(0))
	w = goes(t, w, comes(1), begins(at(2, 2, 2), at(1, 2, 1)), begins(at(0, 0, -8)), comes(2), comes(4))
	return w
}

func TestSome(t *testing.T) {
	give, take := three(), parts(at(2, 2, 2), at(1, 2, 1))
	want := api.World{
		Head: api.Head{
			Log:  recs(boots(), rec(api.RecCommit, 64, two()...), rec(api.RecEnd, 64), rec(api.RecCommit, 65, give...)),
			Boot: 1, Next: 4,
			Open: opens(decided(65, give, 1), open(66, take), open(67, parts(at(0, 0, -8)))),
		},
		Houses: []api.House{
			log.House(recs(rec(api.RecReady, 64, at(0, 0, 7)), rec(api.RecDone, 64), rec(api.RecReady, 65, at(0, 3, 5)))),
			log.House(recs(rec(api.RecReady, 64, at(1, 0, 2)), rec(api.RecDone, 64), rec(api.RecReady, 65, at(1, 1, 0)), rec(api.RecDone, 65))),
			log.House(recs(rec(api.RecReady, 65, at(2, 1, 6)))),
		},
		Net: net.Send(nil, msgs(
			msg(api.MsgCommit, 65, 0), msg(api.MsgCommit, 65, 2),
			msg(api.MsgPrepare, 66, 1, at(1, 2, 1)), msg(api.MsgPrepare, 66, 2, at(2, 2, 2)),
			msg(api.MsgNo, 67, 0))),
	}
	is(t, "some", some(t), want)
}

func TestNew(t *testing.T) {
	for n := 1; n <= 3; n++ {
		got, err := New(n)
		want := api.World{Head: api.Head{Log: recs(boots()), Boot: 1}, Houses: make([]api.House, n)}
		if is(t, told(n), got, want); err != api.OK {
			t.Errorf("New(%d) is error %d", n, err)
		}
	}
	for _, n := range []int{math.MinInt, -1, 0, 4, math.MaxInt} {
		got, err := New(n)
		if is(t, told(n), got, api.World{}); err != api.ErrRange {
			t.Errorf("New(%d) is error %d", n, err)
		}
	}
}

// TestNewIsNew: what one New answers is not what another one does, nor is one of its houses another one.
func TestNewIsNew(t *testing.T) {
	w, _ := New(3)
	spoilAll(w)
	w.Houses[0].Sums[2] = 5
	again, _ := New(3)
	is(t, "another one", again, api.World{Head: api.Head{Log: recs(boots()), Boot: 1}, Houses: make([]api.House, 3)})
}

func TestOwn(t *testing.T) {
	odd := some(t)
	odd.Head.Boot, odd.Head.Next = 7, 9
	odd.Houses[1].Sums, odd.Houses[2].Done = [4]int{1, 2, 3, 4}, []int{9, 9}
	odd.Net = append(odd.Net, nil, []byte("zap"))
	first, _ := New(1)
	for _, w := range []api.World{first, some(t), odd, {}, {Houses: []api.House{}, Net: [][]byte{}}} {
		is(t, "a copy", Own(w), w)
	}
}

func TestBegin(t *testing.T) {
	w := made(t, 3, begins(three()...))
	is(t, "the first one", w, api.World{
		Head:   api.Head{Log: recs(boots()), Boot: 1, Next: 1, Open: opens(open(64, three()))},
		Houses: make([]api.House, 3),
		Net:    net.Send(nil, msgs(msg(api.MsgPrepare, 64, 0, at(0, 3, 5)), msg(api.MsgPrepare, 64, 1, at(1, 1, 0)), msg(api.MsgPrepare, 64, 2, at(2, 1, 6)))),
	})
	want := some(t)
	now, said, _ := head.Begin(want.Head, two())
	want.Head, want.Net = now, net.Send(want.Net, said)
	is(t, "beside others", goes(t, some(t), begins(two()...)), want)
	if got := want.Head.Open[len(want.Head.Open)-1]; got.Deed != 68 || len(want.Net) != 7 {
		t.Errorf("beside others %+v is begun, and %d are on their way", got, len(want.Net))
	}
	fallen := goes(t, some(t), falls(api.MaxHouses), begins(one()...))
	if got := fallen.Head.Open[len(fallen.Head.Open)-1]; told(got) != told(open(128, one())) {
		t.Errorf("behind a fall %+v is begun", got)
	}
}

func TestBeginWrong(t *testing.T) {
	five := parts(at(0, 0, 1), at(0, 1, 1), at(0, 2, 1), at(0, 3, 1), at(1, 0, 1))
	for _, c := range []struct {
		name   string
		houses int
		l      []api.Part
		want   api.Errno
	}{
		{"nothing", 3, nil, api.ErrMany},
		{"nothing, empty", 3, parts(), api.ErrMany},
		{"too many", 3, five, api.ErrMany},
		{"too many, ahead of a wrong one", 1, five, api.ErrMany},
		{"no such house", 3, parts(at(3, 0, 1)), api.ErrRange},
		{"no such house, below", 3, parts(at(-1, 0, 1)), api.ErrRange},
		{"no such house here", 2, parts(at(0, 0, 1), at(2, 0, 1)), api.ErrRange},
		{"no such house where there is one", 1, parts(at(0, 0, 1), at(1, 0, 1)), api.ErrRange},
		{"no such key", 3, parts(at(0, 4, 1)), api.ErrRange},
		{"more than may be", 3, parts(at(0, 0, most+1)), api.ErrRange},
		{"less than may be", 3, parts(at(0, 0, -most-1)), api.ErrRange},
		{"a key twice", 3, parts(at(1, 1, 1), at(1, 1, 2)), api.ErrMuch},
		{"a key twice, ahead of no such house", 2, parts(at(1, 1, 1), at(1, 1, 2), at(2, 0, 1)), api.ErrMuch},
		{"no such house, ahead of a key twice", 2, parts(at(2, 0, 1), at(1, 1, 1), at(1, 1, 2)), api.ErrRange},
	} {
		stays(t, c.name, made(t, c.houses, begins(one()...)), begins(c.l...), c.want)
	}
	for n := 1; n <= 3; n++ {
		if _, err := Do(made(t, n), begins(at(n-1, 3, -most), at(0, 0, most))); err != api.OK {
			t.Errorf("a deed at the last of %d houses is %d", n, err)
		}
	}
}

// full is a world that is at that many deeds, and has lost all that was said of them.
func full(t *testing.T, n int) api.World {
	t.Helper()
	w := made(t, 3)
	for range n {
		w = goes(t, w, begins(one()...), does(api.StepLose, 0))
	}
	return w
}

func TestBeginFull(t *testing.T) {
	spent := made(t, 3)
	for range api.EachBoot {
		spent = goes(t, spent, begins(one()...), quits(), does(api.StepLose, 0), does(api.StepLose, 0))
	}
	for name, w := range map[string]api.World{"as many as may be": full(t, api.MaxDeeds), "no number is left": spent} {
		stays(t, name, w, begins(one()...), api.ErrFull)
		stays(t, name+", and wrong parts", w, begins(at(3, 0, 1)), api.ErrRange)
		now := goes(t, w, falls(api.MaxHouses), begins(one()...))
		if told(now.Head.Open) != told(opens(open(128, one()))) {
			t.Errorf("%s: behind a fall %+v is open", name, now.Head.Open)
		}
	}
	if w := full(t, api.MaxDeeds-1); len(goes(t, w, begins(two()...)).Head.Open) != 12 {
		t.Errorf("with one less than may be none is begun: %+v", w)
	}
}

// TestComeWho: what comes is heard by the one for whom it is, at the house that it names, and by nobody else; the answer is last.
func TestComeWho(t *testing.T) {
	for kind := api.MsgPrepare; kind <= api.MsgAsk; kind++ {
		for deed := 63; deed < 70; deed++ {
			for at := range api.MaxHouses {
				m := msg(kind, deed, at)
				if kind == api.MsgPrepare {
					m.Parts = parts(api.Part{House: at, Key: 3, N: 1})
				}
				w := some(t)
				w.Net = slices.Insert(w.Net, 2, wire.Bytes(m))
				want := some(t)
				var said []api.Msg
				switch kind {
				case api.MsgPrepare, api.MsgCommit, api.MsgAbort:
					want.Houses[at], said = house.Hear(want.Houses[at], at, m)
				default:
					want.Head, said = head.Hear(want.Head, m)
				}
				want.Net = net.Send(want.Net, said)
				is(t, told(m), goes(t, w, comes(2)), want)
			}
		}
	}
}

// TestComeAll: a deed goes from the head to its houses, and back, until all have done it.
func TestComeAll(t *testing.T) {
	l := parts(at(1, 3, 3), at(0, 1, 5))
	ready := func(p api.Part) api.Rec { return rec(api.RecReady, 64, p) }
	done := rec(api.RecDone, 64)
	asks := msgs(msg(api.MsgPrepare, 64, 0, l[1]), msg(api.MsgPrepare, 64, 1, l[0]))
	yes := msgs(msg(api.MsgYes, 64, 0), msg(api.MsgYes, 64, 1))
	commits := msgs(msg(api.MsgCommit, 64, 0), msg(api.MsgCommit, 64, 1))
	acks := msgs(msg(api.MsgAck, 64, 0), msg(api.MsgAck, 64, 1))
	first := recs(boots())
	second := append(recs(boots()), rec(api.RecCommit, 64, l...))
	w := made(t, 2, begins(l...))
	for i, c := range []struct {
		log  []api.Rec
		open []api.Open
		a, b []api.Rec
		net  []api.Msg
	}{
		{first, opens(open(64, l)), nil, nil, asks},
		{first, opens(open(64, l)), recs(ready(l[1])), nil, msgs(asks[1], yes[0])},
		{first, opens(open(64, l)), recs(ready(l[1])), recs(ready(l[0])), yes},
		{first, opens(open(64, l, 0)), recs(ready(l[1])), recs(ready(l[0])), yes[1:]},
		{second, opens(decided(64, l)), recs(ready(l[1])), recs(ready(l[0])), commits},
		{second, opens(decided(64, l)), recs(ready(l[1]), done), recs(ready(l[0])), msgs(commits[1], acks[0])},
		{second, opens(decided(64, l)), recs(ready(l[1]), done), recs(ready(l[0]), done), acks},
		{second, opens(decided(64, l, 0)), recs(ready(l[1]), done), recs(ready(l[0]), done), acks[1:]},
		{append(slices.Clone(second), rec(api.RecEnd, 64)), nil, recs(ready(l[1]), done), recs(ready(l[0]), done), nil},
	} {
		if i > 0 {
			w = goes(t, w, comes(0))
		}
		is(t, told(i), w, api.World{
			Head:   api.Head{Log: c.log, Boot: 1, Next: 1, Open: c.open},
			Houses: []api.House{log.House(c.a), log.House(c.b)},
			Net:    net.Send(nil, c.net),
		})
	}
	if told(w.Houses[0].Sums, w.Houses[1].Sums) != told([4]int{0, 5, 0, 0}, [4]int{0, 0, 0, 3}) {
		t.Errorf("done, the sums are %v, %v", w.Houses[0].Sums, w.Houses[1].Sums)
	}
}

// TestComeNone: who does not fit at one house is done at no house.
func TestComeNone(t *testing.T) {
	w := calm(t, made(t, 3, begins(at(0, 0, 5), at(1, 0, -1), at(2, 0, 5))))
	if len(w.Head.Open) > 0 || len(w.Head.Log) != 1 {
		t.Errorf("behind a no the head is %+v", w.Head)
	}
	for _, h := range w.Houses {
		if h.Sums != [4]int{} || len(h.Ready) > 0 || len(h.Done) > 0 {
			t.Errorf("behind a no a house is %+v", h)
		}
	}
}

// sealed answers these bytes with their sum behind them.
func sealed(body ...byte) []byte {
	s := wire.Sum(body)
	return append(body, byte(s/256), byte(s%256))
}

// gone: the message at place 2 is there no more, and nothing else changed.
func gone(t *testing.T, b []byte, s api.Step) {
	t.Helper()
	w := some(t)
	w.Net = slices.Insert(w.Net, 2, b)
	is(t, told(s, b), goes(t, w, s), some(t))
}

// TestSpoilt: what is spoilt comes to nobody, and is gone; that is no error. It can also be lost, or be there twice.
func TestSpoilt(t *testing.T) {
	turned := wire.Bytes(msg(api.MsgCommit, 65, 0))
	turned[1] ^= 2
	for _, b := range [][]byte{nil, {}, {4, 0}, []byte("zap"), turned, sealed(4, 128), sealed(4, 130, 1, 0), sealed(4, 130, 1, 0, 0, 0), sealed(4, 130, 1, 0, 10),
		sealed(0, 130, 1, 0, 0), sealed(8, 130, 1, 0, 0), sealed(4, 130, 1, 6, 0), sealed(1, 128, 21, 0, 2, 0, 2), sealed(4, 130, 1, 0, 2, 0, 2), sealed(1, 130, 1, 0, 4, 0, 2, 0, 2)} {
		if m, err := wire.Read(b); err == api.OK {
			t.Fatalf("%v is not spoilt: %v", b, m)
		}
		gone(t, b, comes(2))
		gone(t, b, does(api.StepLose, 2))
		w := some(t)
		w.Net = slices.Insert(w.Net, 2, b)
		want := Own(w)
		want.Net = append(want.Net, b)
		is(t, told("twice", b), goes(t, w, does(api.StepTwice, 2)), want)
	}
}

// TestNoHouse: what is of a house that is not there is gone, also if it is for the head.
func TestNoHouse(t *testing.T) {
	for houses := 1; houses < api.MaxHouses; houses++ {
		for kind := api.MsgPrepare; kind <= api.MsgAsk; kind++ {
			for _, deed := range []int{64, 65, 70} {
				m := msg(kind, deed, houses)
				if kind == api.MsgPrepare {
					m.Parts = parts(at(houses, 0, 1))
				}
				was := made(t, houses, begins(one()...), begins(at(houses-1, 1, 1)), comes(0), comes(1))
				w := Own(was)
				w.Net = append(w.Net, wire.Bytes(m))
				is(t, told(houses, m), goes(t, w, comes(2)), was)
			}
		}
	}
}

// TestComeFull: what comes is on its way no more, so that there is room for one answer; more than that is lost.
func TestComeFull(t *testing.T) {
	w := made(t, 3, begins(at(0, 0, 1), at(1, 0, 1), at(2, 0, 1)), comes(0), comes(0), comes(0), comes(0), comes(0))
	for range api.MaxNet - 1 {
		w = goes(t, w, does(api.StepTwice, 0))
	}
	was := way(t, w)
	if len(was) != api.MaxNet {
		t.Fatalf("%d are on their way", len(was))
	}
	now := goes(t, w, comes(7))
	if want := append(was[1:], msg(api.MsgCommit, 64, 0)); told(way(t, now)) != told(want) {
		t.Errorf("of three commits, with room for one, %v are on their way, not %v", way(t, now), want)
	}
	if !now.Head.Open[0].Decided {
		t.Errorf("what was decided, but not sent, is not decided: %+v", now.Head)
	}
	is(t, "nothing more is sent", goes(t, now, ticks(3)), now)
	want := Own(now)
	want.Head, _, _ = head.Begin(now.Head, two())
	is(t, "begun, and nothing is sent", goes(t, now, begins(two()...)), want)
}

// without is what is on its way, but for place n.
func without(l []api.Msg, n int) []api.Msg { return slices.Delete(slices.Clone(l), n, n+1) }

func TestLoseAndTwice(t *testing.T) {
	was := way(t, some(t))
	for n, m := range was {
		for _, c := range []struct {
			s    api.Step
			want []api.Msg
		}{
			{does(api.StepLose, n), without(was, n)},
			{does(api.StepTwice, n), append(slices.Clone(was), m)},
		} {
			want := some(t)
			want.Net = net.Send(nil, c.want)
			is(t, told(c.s), goes(t, some(t), c.s), want)
		}
	}
}

// TestTwiceFull: where there is no room nothing is there twice, and that is no error.
func TestTwiceFull(t *testing.T) {
	w := some(t)
	for n := len(w.Net); n < api.MaxNet; n++ {
		if w = goes(t, w, does(api.StepTwice, n-1)); len(w.Net) != n+1 {
			t.Fatalf("with %d on their way, and one twice, there are %d", n, len(w.Net))
		}
	}
	is(t, "with no room", goes(t, w, does(api.StepTwice, 5)), w)
	stays(t, "with no room, and no place", w, does(api.StepTwice, api.MaxNet), api.ErrNone)
}

func TestNoMessage(t *testing.T) {
	for _, w := range []api.World{made(t, 1), some(t), goes(t, some(t), does(api.StepLose, 4))} {
		for _, kind := range []int{api.StepCome, api.StepLose, api.StepTwice} {
			for _, n := range []int{math.MinInt, -1, len(w.Net), len(w.Net) + 1, api.MaxNet, math.MaxInt} {
				stays(t, "no message", w, does(kind, n), api.ErrNone)
			}
		}
	}
}

func TestFallHouse(t *testing.T) {
	for n := range api.MaxHouses {
		is(t, told("house", n), goes(t, some(t), falls(n)), some(t))
		// Only its log lasts.
		w := some(t)
		w.Houses[n].Sums, w.Houses[n].Done, w.Houses[n].Ready = [4]int{9, 9, 9, 9}, []int{66}, nil
		is(t, told("house", n, "of which only the log is right"), goes(t, w, falls(n)), some(t))
		w.Houses[n].Log = nil
		want := some(t)
		want.Houses[n] = api.House{}
		is(t, told("house", n, "without a log"), goes(t, w, falls(n)), want)
	}
}

// TestFallBehindYes: a house that falls behind its yes does the deed still; what was not decided when the head falls is not done.
func TestFallBehindYes(t *testing.T) {
	ready := made(t, 2, begins(two()...), comes(0), comes(0), falls(0), falls(1), comes(0))
	w := goes(t, ready, comes(0), falls(0), falls(1), falls(api.MaxHouses), ticks(api.MaxHouses))
	w = calm(t, w)
	if w.Houses[0].Sums != [4]int{7} || w.Houses[1].Sums != [4]int{2} || len(w.Head.Open) > 0 {
		t.Errorf("a deed that was decided is not done: %+v", w)
	}
	w = goes(t, ready, falls(api.MaxHouses), comes(0), falls(0), ticks(0), ticks(1))
	w = calm(t, w)
	for _, h := range w.Houses {
		if h.Sums != [4]int{} || len(h.Ready) > 0 || len(h.Done) > 0 {
			t.Errorf("of a deed that was not decided when the head fell a house is %+v", h)
		}
	}
}

func TestFallHead(t *testing.T) {
	want := some(t)
	want.Head = api.Head{
		Log: append(want.Head.Log, boots()), Boot: 2,
		Open: opens(decided(65, three())),
	}
	is(t, "the head", goes(t, some(t), falls(api.MaxHouses)), want)
	first := made(t, 1, begins(one()...), falls(3))
	is(t, "the head of one house", first, api.World{
		Head:   api.Head{Log: recs(boots(), boots()), Boot: 2},
		Houses: make([]api.House, 1),
		Net:    net.Send(nil, msgs(msg(api.MsgPrepare, 64, 0, one()...))),
	})
}

func TestFallTooOften(t *testing.T) {
	w := some(t)
	for boot := 2; boot <= 20; boot++ {
		if w = goes(t, w, falls(3)); w.Head.Boot != boot {
			t.Fatalf("behind a fall the boot is %d, not %d", w.Head.Boot, boot)
		}
	}
	w = goes(t, w, begins(one()...))
	stays(t, "too often", w, falls(3), api.ErrMany)
	is(t, "a house may fall still", goes(t, w, falls(0), falls(1), falls(2)), w)
}

func TestTick(t *testing.T) {
	said := [][]api.Msg{
		msgs(msg(api.MsgAsk, 65, 0)),
		nil,
		msgs(msg(api.MsgAsk, 65, 2)),
		msgs(msg(api.MsgCommit, 65, 0), msg(api.MsgCommit, 65, 2), msg(api.MsgPrepare, 66, 1, at(1, 2, 1)), msg(api.MsgPrepare, 66, 2, at(2, 2, 2)), msg(api.MsgPrepare, 67, 0, at(0, 0, -8))),
	}
	for n, l := range said {
		want := some(t)
		want.Net = net.Send(want.Net, l)
		is(t, told(n), goes(t, some(t), ticks(n)), want)
	}
	is(t, "a new head", made(t, 2, ticks(3)), made(t, 2))
}

// TestNobody: who is neither a house nor the head does not fall, nor says anything.
func TestNobody(t *testing.T) {
	for houses := 1; houses <= api.MaxHouses; houses++ {
		w := made(t, houses, begins(one()...), comes(0))
		for n := -2; n < 9; n++ {
			for _, s := range []api.Step{falls(n), ticks(n)} {
				if n >= 0 && n < houses || n == 3 {
					goes(t, w, s)
				} else {
					stays(t, "nobody", w, s, api.ErrNone)
				}
			}
		}
		for _, n := range []int{math.MinInt, math.MaxInt} {
			stays(t, "nobody", w, falls(n), api.ErrNone)
			stays(t, "nobody", w, ticks(n), api.ErrNone)
		}
	}
}

func TestQuit(t *testing.T) {
	want := some(t)
	want.Head.Open = opens(decided(65, three(), 1))
	want.Net = net.Send(want.Net, msgs(msg(api.MsgAbort, 66, 1), msg(api.MsgAbort, 66, 2), msg(api.MsgAbort, 67, 0)))
	w := goes(t, some(t), quits())
	is(t, "what is not decided", w, want)
	is(t, "a second time", goes(t, w, quits()), want)
	is(t, "a new one", made(t, 1, quits()), made(t, 1))
}

func TestNoKind(t *testing.T) {
	for _, kind := range []int{math.MinInt, -1, 0, 8, 9, math.MaxInt} {
		for _, n := range []int{math.MinInt, -1, 0, 3, 99} {
			stays(t, "no kind", some(t), api.Step{Kind: kind, N: n, Parts: two()}, api.ErrKind)
		}
	}
}

// TestFieldsThatMeanNothing: parts of a step that has none, and N of one that has no N, are not looked at.
func TestFieldsThatMeanNothing(t *testing.T) {
	for kind := api.StepCome; kind <= api.StepQuit; kind++ {
		for _, l := range [][]api.Part{two(), parts(at(9, 9, 9)), make([]api.Part, 99)} {
			is(t, told(kind), goes(t, some(t), api.Step{Kind: kind, N: 1, Parts: l}), goes(t, some(t), does(kind, 1)))
		}
	}
	for _, n := range []int{math.MinInt, -1, 3, 5, 99, math.MaxInt} {
		is(t, "begin", goes(t, some(t), api.Step{Kind: api.StepBegin, N: n, Parts: two()}), goes(t, some(t), begins(two()...)))
		is(t, "quit", goes(t, some(t), does(api.StepQuit, n)), goes(t, some(t), quits()))
	}
}

// steps are all that may be asked of a world such as some, with and without an error.
func steps() []api.Step {
	out := []api.Step{quits(), begins(two()...), begins(three()...), begins(), begins(at(3, 3, 3)), does(0, 0), does(8, 0)}
	for n := -1; n < 7; n++ {
		for kind := api.StepCome; kind <= api.StepTick; kind++ {
			out = append(out, does(kind, n))
		}
	}
	return out
}

// TestSameAgain: what Do answers hangs on what it is given, and on nothing else.
func TestSameAgain(t *testing.T) {
	for _, s := range steps() {
		a, x := Do(some(t), s)
		b, y := Do(some(t), s)
		if told(a, x) != told(b, y) {
			t.Errorf("%+v makes %+v, %d, and then %+v, %d", s, a, x, b, y)
		}
	}
}

// chances answers numbers below n, the same ones each time.
func chances(seed uint64) func(n int) int {
	return func(n int) int {
		seed = seed*6364136223846793005 + 1442695040888963407
		return int(seed>>33) % n
	}
}

// anyStep is a step that mostly has no error, now and then a wrong one.
func anyStep(chance func(n int) int, w api.World) api.Step {
	there := func() int { return chance(len(w.Net) + 1) }
	switch c := chance(40); {
	case c < 5:
		l := make([]api.Part, 1+chance(3))
		for i := range l {
			l[i] = at(chance(len(w.Houses)), chance(2), chance(9)-3)
		}
		return begins(l...)
	case c < 28:
		return comes(there())
	case c < 30:
		return does(api.StepLose, there())
	case c < 32:
		return does(api.StepTwice, there())
	case c < 34:
		return falls(chance(4))
	case c < 38:
		return ticks(chance(4))
	case c < 39:
		return quits()
	}
	return does(chance(9), chance(40)-2)
}

// anyWay calls look with each world of many chance ways: the one ahead, the step, and what came of it.
func anyWay(t *testing.T, ways, length int, look func(before api.World, s api.Step, now api.World, err api.Errno)) []api.World {
	t.Helper()
	var last []api.World
	for i := range ways {
		chance := chances(uint64(i))
		w := made(t, 1+i%3)
		for range length {
			s := anyStep(chance, w)
			now, err := Do(w, s)
			look(w, s, now, err)
			w = now
		}
		last = append(last, w)
	}
	return last
}

// TestNothingUndecided: what a house does was decided, with these parts; no house does a deed twice; what is done stays done; the logs only grow.
func TestNothingUndecided(t *testing.T) {
	grown := func(was, now []api.Rec) bool { return len(now) >= len(was) && told(now[:len(was)]) == told(was) }
	anyWay(t, 60, 400, func(before api.World, s api.Step, now api.World, err api.Errno) {
		sure := map[int][]api.Part{}
		for _, d := range log.Decided(now.Head.Log) {
			if sure[d.Deed] != nil {
				t.Fatalf("%+v decides %d twice", now, d.Deed)
			}
			sure[d.Deed] = d.Parts
		}
		if !grown(before.Head.Log, now.Head.Log) {
			t.Fatalf("%+v: %+v makes the log %+v", before, s, now.Head.Log)
		}
		for n, h := range now.Houses {
			was := before.Houses[n]
			if !grown(was.Log, h.Log) || len(h.Done) < len(was.Done) || told(h.Done[:len(was.Done)]) != told(was.Done) {
				t.Fatalf("%+v: %+v makes house %d %+v", before, s, n, h)
			}
			var sums [4]int
			for i, deed := range h.Done {
				if len(part.Of(sure[deed], n)) == 0 || slices.Contains(h.Done[:i], deed) {
					t.Fatalf("%+v: %+v has house %d do %d", before, s, n, deed)
				}
				sums = part.Do(sums, part.Of(sure[deed], n))
			}
			if sums != h.Sums || told(h) != told(log.House(h.Log)) {
				t.Fatalf("%+v: %+v makes house %d %+v, with sums %v", before, s, n, h, sums)
			}
		}
	})
}

// TestErrorsChangeNothing: beside an error a world is as it was, whatever it went through.
func TestErrorsChangeNothing(t *testing.T) {
	seen := map[api.Errno]int{}
	anyWay(t, 60, 400, func(before api.World, s api.Step, now api.World, err api.Errno) {
		if seen[err]++; err != api.OK && told(now) != told(before) {
			t.Fatalf("%+v: %+v is %d, and makes %+v", before, s, err, now)
		}
	})
	for _, err := range []api.Errno{api.OK, api.ErrKind, api.ErrMuch, api.ErrMany, api.ErrNone} {
		if seen[err] == 0 {
			t.Errorf("the ways do not come by error %d", err)
		}
	}
}

// TestOnTheWay: no more than MaxNet are ever on their way, and they are right messages to houses that are there.
func TestOnTheWay(t *testing.T) {
	most := 0
	anyWay(t, 60, 400, func(before api.World, s api.Step, now api.World, err api.Errno) {
		most = max(most, len(now.Net))
		for _, m := range way(t, now) {
			if m.House >= len(now.Houses) {
				t.Fatalf("%+v: %+v sends %v", before, s, m)
			}
		}
	})
	if most != api.MaxNet {
		t.Errorf("at most %d are on their way, not %d", most, api.MaxNet)
	}
}

// TestAllOrNone: whatever was lost, came twice, or fell: once nothing is lost any more all of what is decided is done, and of the rest nothing, as if at once.
func TestAllOrNone(t *testing.T) {
	for _, w := range anyWay(t, 90, 300, func(api.World, api.Step, api.World, api.Errno) {}) {
		w = calm(t, w)
		for range 2 * api.MaxRounds {
			w = calm(t, goes(t, w, ticks(api.MaxHouses)))
			for n := range w.Houses {
				w = calm(t, goes(t, w, ticks(n)))
			}
		}
		sums, errs := model.All(len(w.Houses), log.Decided(w.Head.Log))
		var got [][4]int
		for _, h := range w.Houses {
			got = append(got, h.Sums)
			if len(h.Ready) > 0 {
				t.Errorf("at last a house is ready still: %+v", h)
			}
		}
		bad := slices.ContainsFunc(errs, func(e api.Errno) bool { return e != api.OK })
		if len(w.Head.Open) > 0 || bad || told(got) != told(sums) {
			t.Errorf("at last the sums are %v, not %v, and %+v is open", got, sums, w.Head.Open)
		}
	}
}

// spoil writes over all of a list, its spare room too.
func spoil[T any](l []T, with T) {
	l = l[:cap(l)]
	for i := range l {
		l[i] = with
	}
}

// partLists are all lists of parts of a world.
func partLists(w api.World) [][]api.Part {
	var out [][]api.Part
	logs := [][]api.Rec{w.Head.Log}
	for _, o := range w.Head.Open {
		out = append(out, o.Parts)
	}
	for _, h := range w.Houses {
		logs = append(logs, h.Log)
		for _, d := range h.Ready {
			out = append(out, d.Parts)
		}
	}
	for _, r := range slices.Concat(logs...) {
		out = append(out, r.Parts)
	}
	return out
}

// numberLists are all lists of numbers of a world.
func numberLists(w api.World) [][]int {
	var out [][]int
	for _, o := range w.Head.Open {
		out = append(out, o.Heard)
	}
	for _, h := range w.Houses {
		out = append(out, h.Done)
	}
	return out
}

// spoilAll writes over all that a world has.
func spoilAll(w api.World) {
	for _, l := range partLists(w) {
		spoil(l, at(7, 7, 7))
	}
	for _, l := range numberLists(w) {
		spoil(l, 7)
	}
	for _, b := range w.Net {
		spoil(b, 77)
	}
	for _, h := range w.Houses {
		spoil(h.Log, rec(7, 7))
		spoil(h.Ready, api.Ready{Deed: 7})
	}
	spoil(w.Net, []byte{78})
	spoil(w.Head.Log, rec(7, 7))
	spoil(w.Head.Open, open(7, nil))
	spoil(w.Houses, api.House{Sums: [4]int{7, 7, 7, 7}})
}

// room answers a list with the same in it, and more behind it.
func room[T any](l []T, more ...T) []T {
	return append(slices.Clone(l), more...)[:len(l)]
}

// crowded is a world with room behind all its lists that holds something else: it must neither be looked at nor be changed.
func crowded(w api.World) api.World {
	w = Own(w)
	roomyLog := func(l []api.Rec) []api.Rec {
		for i := range l {
			l[i].Parts = room(l[i].Parts, at(0, 1, 9), at(1, 3, 9))
		}
		return room(l, rec(api.RecEnd, 65), rec(api.RecDone, 65), rec(api.RecDrop, 65))
	}
	w.Head.Log = roomyLog(w.Head.Log)
	for i, o := range w.Head.Open {
		w.Head.Open[i].Parts = room(o.Parts, at(0, 1, 9))
		w.Head.Open[i].Heard = room(o.Heard, 0, 1, 2)
	}
	w.Head.Open = room(w.Head.Open, open(69, one()))
	for n, h := range w.Houses {
		for i, d := range h.Ready {
			h.Ready[i].Parts = room(d.Parts, at(n, 0, 9))
		}
		w.Houses[n].Log = roomyLog(h.Log)
		w.Houses[n].Ready = room(h.Ready, api.Ready{Deed: 66, Parts: one()})
		w.Houses[n].Done = room(h.Done, 65, 66)
	}
	for i, b := range w.Net {
		w.Net[i] = room(b, 1, 2, 3)
	}
	w.Houses = room(w.Houses, api.House{Done: []int{64}})
	w.Net = room(w.Net, wire.Bytes(msg(api.MsgAsk, 64, 0)), wire.Bytes(msg(api.MsgAsk, 65, 0)))
	return w
}

// roomy is how a world is told with the room behind its lists.
func roomy(w api.World) string {
	out := told(w.Head.Boot, w.Head.Next, w.Head.Log[:cap(w.Head.Log)], w.Head.Open[:cap(w.Head.Open)], w.Houses[:cap(w.Houses)], w.Net[:cap(w.Net)])
	for _, h := range w.Houses {
		out += told(h.Log[:cap(h.Log)], h.Ready[:cap(h.Ready)])
	}
	for _, l := range partLists(w) {
		out += told(l[:cap(l)])
	}
	for _, l := range numberLists(w) {
		out += told(l[:cap(l)])
	}
	for _, b := range w.Net {
		out += told(b[:cap(b)])
	}
	return out
}

// act is a call that answers a world.
type act struct {
	name string
	do   func(w api.World) (api.World, api.Errno)
}

// calls are all that may be asked of a world, with room behind the parts.
func calls() []act {
	out := []act{{"own", func(w api.World) (api.World, api.Errno) { return Own(w), api.OK }}}
	for _, s := range steps() {
		s.Parts = room(s.Parts, at(1, 3, 9), at(9, 9, 9))
		out = append(out, act{told(s), func(w api.World) (api.World, api.Errno) { return Do(w, s) }})
	}
	out = append(out, act{"fall too often", func(w api.World) (api.World, api.Errno) {
		w.Head.Boot = api.MaxBoots
		return Do(w, falls(3))
	}})
	return out
}

// worlds are worlds of which all lists have something in them.
func worlds(t *testing.T) []api.World {
	t.Helper()
	w := some(t)
	w.Net = append(w.Net, []byte("zap"))
	return []api.World{some(t), w, goes(t, some(t), comes(2), comes(2), ticks(0), ticks(2)), full(t, api.MaxDeeds), made(t, 1)}
}

func TestOnlyRead(t *testing.T) {
	for _, clean := range worlds(t) {
		w := crowded(clean)
		before := roomy(w)
		for _, c := range calls() {
			got, err := c.do(w)
			want, should := c.do(clean)
			if told(got, err) != told(want, should) {
				t.Errorf("%s, with room behind the lists: %+v, %d, not %+v, %d", c.name, got, err, want, should)
			}
			spoilAll(got)
			if roomy(w) != before {
				t.Fatalf("behind %s what was handed in is %s", c.name, roomy(w))
			}
		}
	}
}

// TestNothingKept: what is handed in may be changed behind the call, and answers stay as they are.
func TestNothingKept(t *testing.T) {
	for _, clean := range worlds(t) {
		for _, c := range calls() {
			w := crowded(clean)
			got, _ := c.do(w)
			want := told(got)
			spoilAll(w)
			if now := told(got); now != want {
				t.Errorf("%s: the answer is %s now, not %s", c.name, now, want)
			}
		}
	}
	l := room(three(), at(0, 0, 9), at(1, 0, 9))
	before := told(l[:cap(l)])
	w := goes(t, made(t, 3), begins(l...))
	want := told(w)
	if now := told(l[:cap(l)]); now != before {
		t.Errorf("parts are %s behind a begin, not %s", now, before)
	}
	if spoil(l, at(7, 7, 7)); told(w) != want {
		t.Errorf("parts are kept: the answer is %s now, not %s", told(w), want)
	}
	l = three()
	w = goes(t, made(t, 3), begins(l...))
	if spoilAll(w); told(l) != told(three()) {
		t.Errorf("parts are answered: they are %v now", l)
	}
}

// apart: no two of these lists have memory in common.
func apart[T comparable](t *testing.T, name string, lists [][]T, each func(i int) T) {
	t.Helper()
	for i, l := range lists {
		spoil(l, each(i))
	}
	for i, l := range lists {
		if slices.ContainsFunc(l[:cap(l)], func(x T) bool { return x != each(i) }) {
			t.Fatalf("%s: list %d of %d of %T is also another one", name, i, len(lists), l)
		}
	}
}

// TestNothingShared: no two lists of one answer have memory in common, also where those that came in have.
func TestNothingShared(t *testing.T) {
	for _, w := range worlds(t) {
		if len(w.Net) > 1 {
			w.Net[1] = w.Net[0]
		}
		if len(w.Houses) > 1 {
			w.Houses[1] = w.Houses[0]
		}
		for _, c := range calls() {
			got, _ := c.do(w)
			apart(t, c.name, partLists(got), func(i int) api.Part { return at(i, i, i) })
			apart(t, c.name, numberLists(got), func(i int) int { return i })
			apart(t, c.name, got.Net, func(i int) byte { return byte(i) })
			var ready [][]int
			for n, h := range got.Houses {
				spoil(h.Log, rec(n, n))
				spoil(h.Ready, api.Ready{Deed: n})
			}
			for n, h := range got.Houses {
				for _, r := range h.Log[:cap(h.Log)] {
					ready = append(ready, []int{r.Deed, n})
				}
				for _, d := range h.Ready[:cap(h.Ready)] {
					ready = append(ready, []int{d.Deed, n})
				}
			}
			if slices.ContainsFunc(ready, func(l []int) bool { return l[0] != l[1] }) {
				t.Fatalf("%s: two houses have one list", c.name)
			}
		}
	}
}

// TestNoPanic: of worlds that none of these make, and of wrong steps, nothing is promised, but no call panics over them.
func TestNoPanic(t *testing.T) {
	edges := []int{math.MinInt, -1, 0, 1, 3, 4, math.MaxInt}
	var wild []api.Part
	for _, n := range edges {
		wild = append(wild, at(n, n, n), at(0, n, n), at(n, 0, 1))
	}
	odd := api.World{Head: api.Head{Boot: math.MaxInt, Next: math.MinInt}, Houses: make([]api.House, 5)}
	for _, deed := range append(edges, 64) {
		odd.Head.Log = append(odd.Head.Log, rec(api.RecCommit, deed, wild...), rec(deed, deed))
		odd.Head.Open = append(odd.Head.Open, open(deed, wild, edges...), decided(deed, nil), decided(deed, wild))
		odd.Houses[1].Log = append(odd.Houses[1].Log, rec(api.RecReady, deed, wild...), rec(api.RecDone, deed))
		odd.Houses[2].Ready = append(odd.Houses[2].Ready, api.Ready{Deed: deed, Parts: wild})
	}
	for kind := api.MsgPrepare; kind <= api.MsgAsk; kind++ {
		for h := range api.MaxHouses {
			m := msg(kind, 64, h)
			if kind == api.MsgPrepare {
				m.Parts = parts(at(h, 0, 1))
			}
			odd.Net = append(odd.Net, wire.Bytes(m), []byte("zap"), nil)
		}
	}
	noHouses, noHead := odd, odd
	noHouses.Houses, noHead.Head = nil, api.Head{}
	for _, w := range []api.World{{}, odd, noHouses, noHead, {Net: odd.Net}} {
		Own(w)
		for kind := -1; kind < 10; kind++ {
			for _, l := range [][]api.Part{nil, wild, wild[:3], one()} {
				for n := -1; n < len(odd.Net)+2; n++ {
					Do(w, api.Step{Kind: kind, N: n, Parts: l})
				}
				for _, n := range edges {
					Do(w, api.Step{Kind: kind, N: n, Parts: l})
				}
			}
		}
	}
}
