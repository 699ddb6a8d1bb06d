package fair

import (
	"fmt"
	"math"
	"slices"
	"testing"

	"allornone/api"
	"allornone/log"
	"allornone/look"
	"allornone/net"
	"allornone/wire"
	"allornone/world"
)

const most = api.MaxSum

// at is a part, written short; so are records, deeds, messages and steps below.
func at(house, key, n int) api.Part { return api.Part{House: house, Key: key, N: n} }

func parts(l ...api.Part) []api.Part { return l }

func rec(kind, deed int, l ...api.Part) api.Rec { return api.Rec{Kind: kind, Deed: deed, Parts: l} }

func recs(l ...api.Rec) []api.Rec { return l }

func boots() api.Rec { return rec(api.RecBoot, 0) }

func commit(deed int, l ...api.Part) api.Rec { return rec(api.RecCommit, deed, l...) }

func ends(deed int) api.Rec { return rec(api.RecEnd, deed) }

func open(deed int, l []api.Part, heard ...int) api.Open {
	return api.Open{Deed: deed, Parts: l, Heard: heard}
}

func decided(deed int, l []api.Part, heard ...int) api.Open {
	return api.Open{Deed: deed, Parts: l, Decided: true, Heard: heard}
}

func msg(kind, deed, house int, l ...api.Part) api.Msg {
	return api.Msg{Kind: kind, Deed: deed, House: house, Parts: l}
}

func does(kind, n int) api.Step { return api.Step{Kind: kind, N: n} }

func begins(l ...api.Part) api.Step { return api.Step{Kind: api.StepBegin, Parts: l} }

func comes(n int) api.Step { return does(api.StepCome, n) }

func loses(n int) api.Step { return does(api.StepLose, n) }

func doubles(n int) api.Step { return does(api.StepTwice, n) }

func falls(n int) api.Step { return does(api.StepFall, n) }

func ticks(n int) api.Step { return does(api.StepTick, n) }

func quits() api.Step { return does(api.StepQuit, 0) }

func steps(l ...api.Step) []api.Step { return l }

func errs(l ...api.Errno) []api.Errno { return l }

// times is a step, so many times.
func times(n int, s api.Step) []api.Step { return slices.Repeat(steps(s), n) }

// told is how a value is told; nil and empty lists are told alike.
func told(x ...any) string { return fmt.Sprintf("%+v", x) }

// is holds a world against the one that it must be.
func is(t *testing.T, name string, got, want api.World) {
	t.Helper()
	if told(got) != told(want) {
		t.Errorf("%s:\n%s is\n%s, not\n%s", t.Name(), name, told(got), told(want))
	}
}

// made is what comes of a new world that takes these steps, of which none may have an error.
func made(t *testing.T, houses int, l ...api.Step) api.World {
	t.Helper()
	w, err := world.New(houses)
	if err != api.OK {
		t.Fatalf("New(%d) is %d", houses, err)
	}
	return goes(t, w, l...)
}

// goes is what comes of a world that takes these steps, of which none may have an error.
func goes(t *testing.T, w api.World, l ...api.Step) api.World {
	t.Helper()
	for _, s := range l {
		now, err := world.Do(w, s)
		if err != api.OK {
			t.Fatalf("Do(%+v, %+v) is %d", w, s, err)
		}
		w = now
	}
	return w
}

// each has message 0 come, or get lost, as long as there is one.
func each(t *testing.T, w api.World, kind int) api.World {
	t.Helper()
	for range 10000 {
		if len(w.Net) == 0 {
			return w
		}
		w = goes(t, w, does(kind, 0))
	}
	t.Fatalf("there is always something on its way: %+v", w)
	return w
}

func allCome(t *testing.T, w api.World) api.World {
	t.Helper()
	return each(t, w, api.StepCome)
}

func allLost(t *testing.T, w api.World) api.World {
	t.Helper()
	return each(t, w, api.StepLose)
}

// two and three are the parts of deeds of so many houses, not rising.
func two() []api.Part { return parts(at(1, 0, 2), at(0, 0, 7)) }

func three() []api.Part { return parts(at(2, 1, 6), at(0, 3, 5), at(1, 1, 0)) }

// row is the parts of a deed of three houses, all at one key.
func row(key int) []api.Part { return parts(at(0, key, 1), at(1, key, 1), at(2, key, 1)) }

func TestPlay(t *testing.T) {
	for _, c := range []struct {
		name   string
		houses int
		l      []api.Step
		want   api.World
	}{
		{"nothing, one house", 1, nil, api.World{Head: api.Head{Log: recs(boots()), Boot: 1}, Houses: make([]api.House, 1)}},
		{"nothing, two houses", 2, steps(), api.World{Head: api.Head{Log: recs(boots()), Boot: 1}, Houses: make([]api.House, 2)}},
		{"nothing, three houses", 3, nil, api.World{Head: api.Head{Log: recs(boots()), Boot: 1}, Houses: make([]api.House, 3)}},
		{"begun", 2, steps(begins(two()...)), api.World{
			Head:   api.Head{Log: recs(boots()), Boot: 1, Next: 1, Open: []api.Open{open(64, two())}},
			Houses: make([]api.House, 2),
			Net:    net.Send(nil, []api.Msg{msg(api.MsgPrepare, 64, 0, at(0, 0, 7)), msg(api.MsgPrepare, 64, 1, at(1, 0, 2))}),
		}},
		{"in their order", 1, steps(begins(at(0, 2, most)), comes(0), loses(0), falls(0), quits(), doubles(0), begins(at(0, 1, 1)), comes(2)), api.World{
			Head:   api.Head{Log: recs(boots()), Boot: 1, Next: 2, Open: []api.Open{open(65, parts(at(0, 1, 1)))}},
			Houses: []api.House{log.House(recs(rec(api.RecReady, 64, at(0, 2, most)), rec(api.RecReady, 65, at(0, 1, 1))))},
			Net:    net.Send(nil, []api.Msg{msg(api.MsgAbort, 64, 0), msg(api.MsgAbort, 64, 0), msg(api.MsgYes, 65, 0)}),
		}},
		{"until it is done", 2, append(times(1, begins(two()...)), times(8, comes(0))...), api.World{
			Head: api.Head{Log: recs(boots(), commit(64, two()...), ends(64)), Boot: 1, Next: 1},
			Houses: []api.House{
				log.House(recs(rec(api.RecReady, 64, at(0, 0, 7)), rec(api.RecDone, 64))),
				log.House(recs(rec(api.RecReady, 64, at(1, 0, 2)), rec(api.RecDone, 64))),
			},
		}},
	} {
		got, es, err := Play(c.houses, c.l)
		is(t, c.name, got, c.want)
		if err != api.OK || !slices.Equal(es, make([]api.Errno, len(c.l))) {
			t.Errorf("%s: the errors are %v, %d", c.name, es, err)
		}
	}
}

// TestPlayErrors: each step has its own error, at its place, and what has one changes nothing.
func TestPlayErrors(t *testing.T) {
	one := parts(at(0, 0, 1))
	lost := steps(begins(one...), loses(0))
	for _, c := range []struct {
		name string
		l    []api.Step
		want []api.Errno
		good []api.Step
	}{
		{"none of a kind", steps(does(0, 0), does(8, 0), does(-1, 0)), errs(api.ErrKind, api.ErrKind, api.ErrKind), nil},
		{"wrong parts", steps(begins(), begins(at(2, 0, 1)), begins(at(0, 0, 1), at(0, 0, 2)), begins(at(1, 0, most+1)), begins(one...)),
			errs(api.ErrMany, api.ErrRange, api.ErrMuch, api.ErrRange, api.OK), steps(begins(one...))},
		{"no message", steps(comes(0), begins(one...), comes(1), loses(-1), doubles(9), comes(0), loses(0), loses(0)),
			errs(api.ErrNone, api.OK, api.ErrNone, api.ErrNone, api.ErrNone, api.OK, api.OK, api.ErrNone), steps(begins(one...), comes(0), loses(0))},
		{"nobody", steps(ticks(2), falls(2), ticks(3), falls(3), ticks(4), falls(-1), ticks(1)),
			errs(api.ErrNone, api.ErrNone, api.OK, api.OK, api.ErrNone, api.ErrNone, api.OK), steps(falls(3))},
		{"too often", slices.Concat(times(20, falls(3)), steps(begins(one...)), times(2, falls(3))),
			slices.Concat(make([]api.Errno, 19), errs(api.ErrMany, api.OK, api.ErrMany, api.ErrMany)), append(times(19, falls(3)), begins(one...))},
		{"no room", slices.Concat(slices.Repeat(lost, 12), lost[:1], steps(begins(), quits())),
			slices.Concat(make([]api.Errno, 24), errs(api.ErrFull, api.ErrMany, api.OK)), append(slices.Repeat(lost, 12), quits())},
	} {
		got, es, err := Play(2, c.l)
		is(t, c.name, got, made(t, 2, c.good...))
		if err != api.OK || !slices.Equal(es, c.want) {
			t.Errorf("%s: the errors are %v, %d, not %v", c.name, es, err, c.want)
		}
	}
}

func TestPlayWrong(t *testing.T) {
	for _, c := range []struct {
		houses, many int
		want         api.Errno
	}{
		{0, 0, api.ErrRange}, {4, 0, api.ErrRange}, {-1, 1, api.ErrRange}, {math.MinInt, 150, api.ErrRange}, {math.MaxInt, 2, api.ErrRange},
		{1, 151, api.ErrMany}, {2, 152, api.ErrMany}, {3, 5000, api.ErrMany},
		{0, 151, api.ErrRange}, {4, 5000, api.ErrRange},
	} {
		for _, s := range []api.Step{begins(at(0, 0, 1)), quits(), {}} {
			if got, es, err := Play(c.houses, times(c.many, s)); err != c.want || told(got) != told(api.World{}) || len(es) > 0 {
				t.Errorf("Play(%d, %d steps %+v) is %+v, %v, %d, not %d", c.houses, c.many, s, got, es, err, c.want)
			}
		}
	}
}

// TestPlayMost: as many steps as may be are all taken.
func TestPlayMost(t *testing.T) {
	for _, many := range []int{1, 25, 149, 150} {
		l := append(times(many-1, quits()), begins(two()...))
		got, es, err := Play(2, l)
		is(t, told(many), got, made(t, 2, l...))
		if err != api.OK || len(es) != many || len(got.Head.Open) != 1 {
			t.Errorf("%d steps have errors %v, %d", many, es, err)
		}
	}
}

// TestRound: what a round makes of a deed, wherever it has come to.
func TestRound(t *testing.T) {
	done := made(t, 2, append(steps(begins(two()...)), times(8, comes(0))...)...)
	dropped := func(house int, p api.Part) api.World {
		w := made(t, 2, begins(two()...), quits())
		w = allLost(t, w)
		w.Houses[house] = log.House(recs(rec(api.RecReady, 64, p), rec(api.RecDrop, 64)))
		return w
	}
	begun := func(l ...api.Step) api.World { return made(t, 2, append(steps(begins(two()...)), l...)...) }
	for _, c := range []struct {
		name    string
		w, want api.World
	}{
		{"nothing", made(t, 3), made(t, 3)},
		{"begun", begun(), done},
		{"asked, and lost", begun(loses(0), loses(0)), done},
		{"one yes, and lost", begun(loses(1), comes(0), loses(0)), done},
		{"decided", begun(times(4, comes(0))...), done},
		{"decided, and lost", begun(append(times(4, comes(0)), loses(0), loses(0))...), done},
		{"done, and lost", begun(append(times(6, comes(0)), loses(0), loses(0))...), done},
		{"all twice", begun(slices.Concat(steps(doubles(0), doubles(1)), times(2, comes(0)), steps(doubles(2), doubles(3)))...), done},
		{"done", done, done},
		{"given up, and lost", begun(comes(1), quits(), loses(2), loses(0), loses(0), loses(0)), dropped(1, at(1, 0, 2))},
		{"given up", begun(comes(0), quits(), loses(0)), dropped(0, at(0, 0, 7))},
	} {
		is(t, c.name, Round(c.w), c.want)
	}
}

// TestRoundNo: what does not fit at one house is dropped at each one, and what is decided goes on beside it.
func TestRoundNo(t *testing.T) {
	w := made(t, 3, begins(two()...), comes(0), comes(0), comes(0), comes(0), loses(0), loses(0), begins(at(2, 2, 5), at(1, 2, -1)), begins(at(2, 3, 4)))
	want := api.World{
		Head: api.Head{Log: recs(boots(), commit(64, two()...), commit(66, at(2, 3, 4)), ends(66), ends(64)), Boot: 1, Next: 3},
		Houses: []api.House{
			log.House(recs(rec(api.RecReady, 64, at(0, 0, 7)), rec(api.RecDone, 64))),
			log.House(recs(rec(api.RecReady, 64, at(1, 0, 2)), rec(api.RecDone, 64))),
			log.House(recs(rec(api.RecReady, 65, at(2, 2, 5)), rec(api.RecReady, 66, at(2, 3, 4)), rec(api.RecDrop, 65), rec(api.RecDone, 66))),
		},
	}
	is(t, "a round", Round(w), want)
}

// TestFirstFirst: of what is on its way the first one comes first, and what is said to it comes behind all of that.
func TestFirstFirst(t *testing.T) {
	// 65 is at the key when 64 asks for it, and not done yet.
	w := made(t, 1, begins(at(0, 0, 1)), begins(at(0, 0, 2)), doubles(0), loses(0))
	w = Round(w)
	if got := look.Sums(w)[0]; got != [4]int{2} {
		t.Errorf("the sums are %v", got)
	}
	if want := recs(boots(), commit(65, at(0, 0, 2)), ends(65)); told(w.Head.Log) != told(want) {
		t.Errorf("the head's log is %+v, not %+v", w.Head.Log, want)
	}
}

// TestWayAhead: what is on its way comes ahead of what the head says again.
func TestWayAhead(t *testing.T) {
	// Were 64 asked again while 65 is at its key, it would get a no.
	w := Round(made(t, 1, begins(at(0, 0, 1)), loses(0), begins(at(0, 0, 2))))
	if want := recs(boots(), commit(65, at(0, 0, 2)), ends(65), commit(64, at(0, 0, 1)), ends(64)); told(w.Head.Log) != told(want) {
		t.Errorf("the head's log is %+v, not %+v", w.Head.Log, want)
	}
}

// TestHeadAhead: the head says again what it waits for ahead of the houses.
func TestHeadAhead(t *testing.T) {
	w := made(t, 1, begins(at(0, 0, 1)), begins(at(0, 1, 2)), comes(1), comes(0), comes(1), comes(0), loses(0), loses(0))
	if told(w.Houses[0].Ready) != told([]api.Ready{{Deed: 65, Parts: parts(at(0, 1, 2))}, {Deed: 64, Parts: parts(at(0, 0, 1))}}) {
		t.Fatalf("the house is %+v", w.Houses[0])
	}
	if got, want := Round(w).Houses[0].Done, []int{64, 65}; !slices.Equal(got, want) {
		t.Errorf("%v are done in turn, not %v", got, want)
	}
}

// crowd is a world in which the head is at as many deeds as may be, all decided, of all houses. Of what it says again there is room but for the first eight, that all have done. Of the last four 72 is done nowhere, and each other one at another house.
func crowd(t *testing.T) api.World {
	t.Helper()
	w := made(t, 3)
	for range 8 {
		w = goes(t, w, begins(row(0)...))
		w = allLost(t, goes(t, w, times(9, comes(0))...))
	}
	for key := range 4 {
		w = goes(t, w, begins(row(key)...))
	}
	// House 2 is asked of the last one first, house 1 of the second one, house 0 of the first one.
	for _, n := range []int{11, 8, 5, 2, 3, 1, 5, 3, 0, 0, 0, 0} {
		w = goes(t, w, comes(n))
	}
	w = goes(t, w, times(12, comes(0))...)
	return allLost(t, goes(t, w, comes(11), comes(7), comes(3)))
}

func ready(deeds ...int) []api.Ready {
	var out []api.Ready
	for _, deed := range deeds {
		out = append(out, api.Ready{Deed: deed, Parts: nil})
	}
	return out
}

// readyOf is for what a house is ready, without parts.
func readyOf(h api.House) []api.Ready {
	var out []api.Ready
	for _, d := range h.Ready {
		out = append(out, api.Ready{Deed: d.Deed})
	}
	return out
}

func TestCrowd(t *testing.T) {
	w := crowd(t)
	if len(w.Head.Open) != api.MaxDeeds || len(w.Net) > 0 {
		t.Fatalf("the head is %+v, and %d are on their way", w.Head, len(w.Net))
	}
	for i, o := range w.Head.Open {
		if told(o) != told(decided(64+i, row(max(0, i-8)))) {
			t.Errorf("%+v is open", o)
		}
	}
	for n, want := range [][]api.Ready{ready(72, 74, 75), ready(73, 72, 75), ready(74, 73, 72)} {
		if got := readyOf(w.Houses[n]); told(got) != told(want) {
			t.Errorf("house %d is ready for %+v, not %+v", n, got, want)
		}
	}
}

// TestTurn: in one round the head speaks once, and then houses 2, 1 and 0, each of them behind all that the one ahead brought.
func TestTurn(t *testing.T) {
	w := crowd(t)
	now := Round(w)
	want := slices.Clone(w.Head.Log)
	for deed := 64; deed <= 72; deed++ {
		want = append(want, ends(deed))
	}
	if told(now.Head.Log) != told(want) {
		t.Errorf("the head's log is %+v, not %+v", now.Head.Log, want)
	}
	if open := []api.Open{decided(73, row(1), 2, 1), decided(74, row(2), 2, 0), decided(75, row(3), 1, 0)}; told(now.Head.Open) != told(open) {
		t.Errorf("the head has %+v, not %+v", now.Head.Open, open)
	}
	for n, tail := range [][]int{{73, 72, 74, 75}, {74, 73, 72, 75}, {75, 74, 73, 72}} {
		if want := append([]int{64, 65, 66, 67, 68, 69, 70, 71}, tail...); !slices.Equal(now.Houses[n].Done, want) {
			t.Errorf("house %d did %v, not %v", n, now.Houses[n].Done, want)
		}
	}
	if len(now.Net) > 0 || Idle(now) || len(look.Open(now)) > 0 {
		t.Errorf("behind the round the world is %+v", now)
	}
}

func TestIdle(t *testing.T) {
	done := made(t, 2, append(steps(begins(two()...)), times(8, comes(0))...)...)
	changed := func(change func(w *api.World)) api.World {
		w := world.Own(done)
		change(&w)
		return w
	}
	for _, c := range []struct {
		name string
		w    api.World
		want bool
	}{
		{"a new one", made(t, 1), true},
		{"a new one of three", made(t, 3), true},
		{"done", done, true},
		{"done, and fallen", goes(t, done, falls(0), falls(1), falls(3), ticks(0), ticks(3), quits()), true},
		{"nothing but a late message", goes(t, done, begins(at(0, 0, 1)), quits(), loses(0)), false},
		{"a late message, and it came", goes(t, done, begins(at(0, 0, 1)), quits(), loses(0), comes(0)), true},
		{"something spoilt on its way", changed(func(w *api.World) { w.Net = [][]byte{nil} }), false},
		{"empty lists", changed(func(w *api.World) { w.Net, w.Head.Open = [][]byte{}, []api.Open{} }), true},
		{"begun, and nothing on its way", made(t, 2, begins(two()...), loses(0), loses(0)), false},
		{"begun, and given up, and nothing on its way", made(t, 2, begins(two()...), quits(), loses(0), loses(0), loses(0), loses(0)), true},
		{"ready, and nothing else", made(t, 2, begins(two()...), comes(0), falls(3), loses(0), loses(0)), false},
		{"done by all, and not heard", made(t, 2, append(steps(begins(two()...)), slices.Concat(times(6, comes(0)), times(2, loses(0)))...)...), false},
		{"done by all, and one heard", made(t, 2, append(steps(begins(two()...)), slices.Concat(times(7, comes(0)), times(1, loses(0)))...)...), false},
		{"decided, and done nowhere", made(t, 2, append(steps(begins(two()...)), slices.Concat(times(4, comes(0)), times(2, loses(0)))...)...), false},
		{"ended, and not done at one house", changed(func(w *api.World) { w.Houses[1] = api.House{} }), false},
		{"decided, ended, and done nowhere", changed(func(w *api.World) { w.Head.Log = append(w.Head.Log, commit(65, at(0, 0, 1)), ends(65)) }), false},
		{"wrong sums", changed(func(w *api.World) { w.Houses[1].Sums[3]++ }), true},
	} {
		if got := Idle(c.w); got != c.want {
			t.Errorf("%s: Idle(%+v) is %t", c.name, c.w, got)
		}
	}
}

// never is a world that is never idle: what the head's log ended is not done.
func never(t *testing.T) api.World {
	t.Helper()
	w := made(t, 2, begins(two()...))
	w.Head.Log = append(w.Head.Log, commit(70, at(0, 0, 1)), ends(70))
	return w
}

func TestSettle(t *testing.T) {
	many := made(t, 3)
	for range api.MaxDeeds {
		many = allLost(t, goes(t, many, begins(row(0)...)))
	}
	for _, c := range []struct {
		name string
		w    api.World
		want int
	}{
		{"a new one", made(t, 2), 0},
		{"done", made(t, 2, append(steps(begins(two()...)), times(8, comes(0))...)...), 0},
		{"given up", made(t, 2, begins(two()...), quits(), comes(0), loses(0), comes(0), loses(0), loses(0)), 0},
		{"nothing but a message", made(t, 1, begins(at(0, 0, 1)), quits(), loses(0)), 1},
		{"begun", made(t, 3, begins(three()...)), 1},
		{"asked, and lost", made(t, 2, begins(two()...), loses(0), loses(0)), 1},
		{"ready, and the head fell", made(t, 2, begins(two()...), comes(0), falls(3), loses(0), loses(0)), 1},
		{"done, and not heard", made(t, 2, append(steps(begins(two()...)), slices.Concat(times(6, comes(0)), times(2, loses(0)))...)...), 1},
		{"more than there is room for", many, 2},
		{"a crowd", crowd(t), 2},
		{"never", never(t), api.MaxRounds},
	} {
		want := c.w
		for range c.want {
			want = Round(want)
		}
		got, n := Settle(c.w)
		is(t, c.name, got, want)
		if n != c.want || Idle(got) != (n < api.MaxRounds) {
			t.Errorf("%s: it takes %d rounds, not %d, and Idle is %t", c.name, n, c.want, Idle(got))
		}
	}
}

// queue is a world whose head is at far more deeds than may be, all at one key: each round ends as many as there is room for on the way, and does one of them.
func queue(t *testing.T, deeds int) api.World {
	t.Helper()
	w := made(t, 1)
	for n := range deeds {
		w.Head.Open = append(w.Head.Open, open(64+n, parts(at(0, 0, 1))))
	}
	return w
}

// TestMostRounds: a world that is not idle soon has as many rounds as may be, and not one more.
func TestMostRounds(t *testing.T) {
	for _, c := range []struct{ deeds, rounds, left int }{
		{1, 1, 0}, {24, 1, 0}, {25, 2, 0}, {29 * 24, 29, 0}, {29*24 + 1, 30, 0}, {30 * 24, 30, 0}, {30*24 + 1, 30, 1}, {31 * 24, 30, 24}, {800, 30, 80},
	} {
		w, n := Settle(queue(t, c.deeds))
		if n != c.rounds || len(w.Head.Open) != c.left || look.Sums(w)[0] != [4]int{c.rounds} {
			t.Errorf("of %d deeds %d are left behind %d rounds, and the sums are %v", c.deeds, len(w.Head.Open), n, look.Sums(w))
		}
	}
	// A deed at a house that is not there never ends: each round is as good as the one ahead.
	w := made(t, 2)
	w.Head.Open = []api.Open{open(70, parts(at(2, 0, 1)))}
	got, n := Settle(w)
	if is(t, "a house that is not there", got, w); n != 30 {
		t.Errorf("%d rounds are taken, not 30", n)
	}
}

// chances answers numbers below n, the same ones each time.
func chances(seed uint64) func(n int) int {
	return func(n int) int {
		seed = seed*6364136223846793005 + 1442695040888963407
		return int(seed>>33) % n
	}
}

// anyParts are right parts of a deed, if no key is there twice; takes are as common as gives.
func anyParts(chance func(n int) int, houses int) []api.Part {
	l := make([]api.Part, 1+chance(3))
	for i := range l {
		l[i] = at(chance(houses), chance(3), chance(9)-3)
	}
	return l
}

// anyStep is a step that mostly has no error, now and then a wrong one.
func anyStep(chance func(n int) int, houses, onWay int) api.Step {
	there := func() int { return chance(onWay + 1) }
	switch c := chance(40); {
	case c < 6:
		return begins(anyParts(chance, houses)...)
	case c < 24:
		return comes(there())
	case c < 28:
		return loses(there())
	case c < 30:
		return doubles(there())
	case c < 33:
		return falls(chance(4))
	case c < 38:
		return ticks(chance(4))
	case c < 39:
		return quits()
	}
	return does(chance(9), chance(40)-2)
}

// anyWorld calls see with each world of many chance ways.
func anyWorld(t *testing.T, ways, length int, see func(w api.World)) {
	t.Helper()
	for i := range ways {
		chance := chances(uint64(i))
		w := made(t, 1+i%3)
		for range length {
			w, _ = world.Do(w, anyStep(chance, len(w.Houses), len(w.Net)))
			see(w)
		}
	}
}

// TestPlayIsDo: a world that is played is what its steps make of a new one, one by one.
func TestPlayIsDo(t *testing.T) {
	seen := map[api.Errno]int{}
	for i := range 300 {
		chance := chances(uint64(i))
		houses := 1 + i%3
		l := make([]api.Step, chance(151))
		for n := range l {
			l[n] = anyStep(chance, houses, chance(9))
		}
		w, es, err := Play(houses, l)
		want := made(t, houses)
		should := make([]api.Errno, len(l))
		for n, s := range l {
			want, should[n] = world.Do(want, s)
			seen[should[n]]++
		}
		if told(w, err) != told(want, api.OK) || !slices.Equal(es, should) {
			t.Fatalf("Play(%d, %+v) is %+v, %v, %d, not %+v, %v", houses, l, w, es, err, want, should)
		}
	}
	for _, err := range errs(api.OK, api.ErrKind, api.ErrMuch, api.ErrMany, api.ErrNone, api.ErrFull) {
		if seen[err] == 0 {
			t.Errorf("the ways do not come by error %d", err)
		}
	}
}

// TestRoundIsSteps: a round is what these steps make, in this order.
func TestRoundIsSteps(t *testing.T) {
	anyWorld(t, 40, 60, func(w api.World) {
		want := allCome(t, allCome(t, goes(t, allCome(t, w), ticks(3))))
		for _, n := range []int{2, 1, 0} {
			if n < len(want.Houses) {
				want = allCome(t, goes(t, want, ticks(n)))
			}
		}
		if got := Round(w); told(got) != told(want) {
			t.Fatalf("Round(%+v) is %+v, not %+v", w, got, want)
		}
	})
}

// TestOneDeed: one round that is fair is enough for one deed, whatever went wrong before.
func TestOneDeed(t *testing.T) {
	ended := map[string]int{}
	for i := range 3000 {
		chance := chances(uint64(i))
		w := made(t, 1+i%3)
		l := anyParts(chance, len(w.Houses))
		w, err := world.Do(w, begins(l...))
		if err != api.OK {
			continue
		}
		for range chance(25) {
			if s := anyStep(chance, len(w.Houses), len(w.Net)); s.Kind != api.StepBegin {
				w, _ = world.Do(w, s)
			}
		}
		x := Round(w)
		if !Idle(x) || !look.Whole(x) || !look.Even(x) {
			t.Fatalf("one round makes of %+v: %+v", w, x)
		}
		ended[told(len(log.Decided(x.Head.Log)))]++
	}
	if ended["[0]"] < 100 || ended["[1]"] < 100 {
		t.Errorf("one is decided, or none, this often: %v", ended)
	}
}

// begin tells whether one log begins with another one.
func begin(l, first []api.Rec) bool {
	return len(l) >= len(first) && told(l[:len(first)]) == told(first)
}

// settled: all that a world left open has ended, all of it or none of it; what was done or decided is still; nothing is begun anew, and nobody fell.
func settled(w, x api.World) bool {
	if !Idle(x) || !look.Whole(x) || !look.Even(x) || x.Head.Boot != w.Head.Boot || x.Head.Next != w.Head.Next || !begin(x.Head.Log, w.Head.Log) {
		return false
	}
	for n, h := range x.Houses {
		was := w.Houses[n]
		if !begin(h.Log, was.Log) || told(h) != told(log.House(h.Log)) || len(h.Done) < len(was.Done) || !slices.Equal(h.Done[:len(was.Done)], was.Done) {
			return false
		}
	}
	return true
}

// TestAllEnds: whatever worlds went through, few rounds are enough, and no fewer than are told.
func TestAllEnds(t *testing.T) {
	took := map[int]int{}
	anyWorld(t, 60, 150, func(w api.World) {
		x, n := Settle(w)
		took[n]++
		if n >= api.MaxRounds || !settled(w, x) {
			t.Fatalf("%d rounds make of %+v: %+v", n, w, x)
		}
		y := w
		for i := range n {
			if Idle(y) {
				t.Fatalf("%d rounds are taken of %+v, which is idle behind %d", n, w, i)
			}
			y = Round(y)
		}
		z, more := Settle(x)
		if told(x) != told(y) || told(z) != told(x) || more != 0 {
			t.Fatalf("of %+v %d rounds are %+v, then %d more %+v, not %+v", w, n, x, more, z, y)
		}
	})
	if took[0] < 100 || took[1] < 1000 {
		t.Errorf("so many rounds are taken this often: %v", took)
	}
}

// TestLongWay: worlds that went a long way settle as well.
func TestLongWay(t *testing.T) {
	for i := range 6 {
		chance := chances(uint64(i + 1000))
		w := made(t, 1+i%3)
		for range 2000 {
			w, _ = world.Do(w, anyStep(chance, len(w.Houses), len(w.Net)))
		}
		if x, n := Settle(w); !settled(w, x) || n > 3 {
			t.Errorf("%d rounds are taken, and open are %v, %+v", n, look.Open(x), x.Head.Open)
		}
	}
}

// TestFullWays: also of as many deeds as may be, at all stages, and with nothing or no room on the way, all ends.
func TestFullWays(t *testing.T) {
	took := map[int]int{}
	for i := range 300 {
		chance := chances(uint64(i))
		w := made(t, 3)
		often, kinds := 1+chance(9), []int{api.StepCome, api.StepCome, api.StepLose, api.StepTwice}[:1+chance(4)]
		for range api.MaxDeeds {
			w, _ = world.Do(w, begins(row(chance(4))...))
			for range chance(often) {
				w, _ = world.Do(w, does(kinds[chance(len(kinds))], chance(len(w.Net)+1)))
			}
		}
		if i%2 == 0 {
			w = allLost(t, w)
		}
		for len(w.Net) > 0 && len(w.Net) < api.MaxNet {
			w, _ = world.Do(w, doubles(chance(len(w.Net))))
		}
		x, n := Settle(w)
		took[n]++
		if n >= api.MaxRounds || !settled(w, x) {
			t.Fatalf("%d rounds make of %+v: %+v", n, w, x)
		}
	}
	if took[1] == 0 || took[2] == 0 {
		t.Errorf("so many rounds are taken this often: %v", took)
	}
}

// act is a call that answers a world.
type act struct {
	name string
	do   func(w api.World) (api.World, int)
}

func acts() []act {
	return []act{
		{"Round", func(w api.World) (api.World, int) { return Round(w), 0 }},
		{"Settle", Settle},
		{"Idle", func(w api.World) (api.World, int) {
			if Idle(w) {
				return api.World{}, 1
			}
			return api.World{}, 0
		}},
	}
}

// worlds are worlds of which all lists have something in them, idle ones among them.
func worlds(t *testing.T) []api.World {
	t.Helper()
	busy := goes(t, crowd(t), falls(3), ticks(3), comes(0), comes(0), comes(0), comes(20))
	spoilt := goes(t, made(t, 3, begins(row(1)...), comes(1), quits()), begins(row(2)...), comes(5))
	spoilt.Net = append(spoilt.Net, []byte("zap"), nil)
	idle, _ := Settle(busy)
	return []api.World{busy, spoilt, idle, crowd(t), never(t), made(t, 1)}
}

// spoil writes over all of a list, its spare room too.
func spoil[T any](l []T, with T) {
	l = l[:cap(l)]
	for i := range l {
		l[i] = with
	}
}

// partLists are all lists of parts of a world.
func partLists(w api.World) [][]api.Part {
	var out [][]api.Part
	logs := [][]api.Rec{w.Head.Log}
	for _, o := range w.Head.Open {
		out = append(out, o.Parts)
	}
	for _, h := range w.Houses {
		logs = append(logs, h.Log)
		for _, d := range h.Ready {
			out = append(out, d.Parts)
		}
	}
	for _, r := range slices.Concat(logs...) {
		out = append(out, r.Parts)
	}
	return out
}

// numberLists are all lists of numbers of a world.
func numberLists(w api.World) [][]int {
	var out [][]int
	for _, o := range w.Head.Open {
		out = append(out, o.Heard)
	}
	for _, h := range w.Houses {
		out = append(out, h.Done)
	}
	return out
}

// spoilAll writes over all that a world has.
func spoilAll(w api.World) {
	for _, l := range partLists(w) {
		spoil(l, at(7, 7, 7))
	}
	for _, l := range numberLists(w) {
		spoil(l, 7)
	}
	for _, b := range w.Net {
		spoil(b, 77)
	}
	for _, h := range w.Houses {
		spoil(h.Log, rec(7, 7))
		spoil(h.Ready, api.Ready{Deed: 7})
	}
	spoil(w.Net, []byte{78})
	spoil(w.Head.Log, rec(7, 7))
	spoil(w.Head.Open, open(7, nil))
	spoil(w.Houses, api.House{Sums: [4]int{7, 7, 7, 7}})
}

// room answers a list with the same in it, and more behind it.
func room[T any](l []T, more ...T) []T {
	return append(slices.Clone(l), more...)[:len(l)]
}

// crowded is a world with room behind all its lists that holds something else: it must neither be looked at nor be changed.
func crowded(w api.World) api.World {
	w = world.Own(w)
	roomyLog := func(l []api.Rec) []api.Rec {
		for i := range l {
			l[i].Parts = room(l[i].Parts, at(0, 1, 9), at(1, 3, 9))
		}
		return room(l, commit(90, at(0, 0, 1)), ends(73), rec(api.RecDone, 72))
	}
	w.Head.Log = roomyLog(w.Head.Log)
	for i, o := range w.Head.Open {
		w.Head.Open[i].Parts = room(o.Parts, at(0, 1, 9))
		w.Head.Open[i].Heard = room(o.Heard, 0, 1, 2)
	}
	w.Head.Open = room(w.Head.Open, open(69, row(2)))
	for n, h := range w.Houses {
		for i, d := range h.Ready {
			h.Ready[i].Parts = room(d.Parts, at(n, 0, 9))
		}
		w.Houses[n].Log = roomyLog(h.Log)
		w.Houses[n].Ready = room(h.Ready, api.Ready{Deed: 66, Parts: row(1)})
		w.Houses[n].Done = room(h.Done, 72, 73)
	}
	for i, b := range w.Net {
		w.Net[i] = room(b, 1, 2, 3)
	}
	w.Houses = room(w.Houses, api.House{Ready: []api.Ready{{Deed: 64}}})
	w.Net = room(w.Net, wire.Bytes(msg(api.MsgAsk, 64, 0)), wire.Bytes(msg(api.MsgAsk, 65, 0)))
	return w
}

// roomy is how a world is told with the room behind its lists.
func roomy(w api.World) string {
	out := told(w.Head.Boot, w.Head.Next, w.Head.Log[:cap(w.Head.Log)], w.Head.Open[:cap(w.Head.Open)], w.Houses[:cap(w.Houses)], w.Net[:cap(w.Net)])
	for _, h := range w.Houses {
		out += told(h.Log[:cap(h.Log)], h.Ready[:cap(h.Ready)])
	}
	for _, l := range partLists(w) {
		out += told(l[:cap(l)])
	}
	for _, l := range numberLists(w) {
		out += told(l[:cap(l)])
	}
	for _, b := range w.Net {
		out += told(b[:cap(b)])
	}
	return out
}

func TestOnlyRead(t *testing.T) {
	for _, clean := range worlds(t) {
		w := crowded(clean)
		before := roomy(w)
		for _, c := range acts() {
			got, n := c.do(w)
			want, should := c.do(clean)
			if told(got, n) != told(want, should) {
				t.Errorf("%s, with room behind the lists: %+v, %d, not %+v, %d", c.name, got, n, want, should)
			}
			spoilAll(got)
			if roomy(w) != before {
				t.Fatalf("behind %s what was handed in is %s", c.name, roomy(w))
			}
		}
	}
}

// TestNothingKept: what is handed in may be changed behind the call, and answers stay as they are.
func TestNothingKept(t *testing.T) {
	for _, clean := range worlds(t) {
		for _, c := range acts() {
			w := crowded(clean)
			got, _ := c.do(w)
			want := told(got)
			spoilAll(w)
			if now := told(got); now != want {
				t.Errorf("%s: the answer is %s now, not %s", c.name, now, want)
			}
		}
	}
}

// TestStepsOnlyRead: neither steps nor their parts, nor the room behind them, are changed, looked at, kept, or answered.
func TestStepsOnlyRead(t *testing.T) {
	clean := steps(begins(row(0)...), begins(two()...), comes(0), comes(0), comes(3), does(8, 0), loses(0), ticks(3), begins())
	made := func() []api.Step {
		l := room(clean, begins(row(1)...), quits())
		for i := range l {
			l[i].Parts = room(l[i].Parts, at(1, 3, 9), at(9, 9, 9))
		}
		return l
	}
	tell := func(l []api.Step) string {
		out := told(l[:cap(l)])
		for _, s := range l {
			out += told(s.Parts[:cap(s.Parts)])
		}
		return out
	}
	w, es, _ := Play(3, clean)
	want := told(w, es)
	l := made()
	before := tell(l)
	w, es, _ = Play(3, l)
	if told(w, es) != want || tell(l) != before {
		t.Errorf("with room behind the lists %+v, %v is played, not %s, and the steps are %s, not %s", w, es, want, tell(l), before)
	}
	for _, s := range l {
		spoil(s.Parts, at(7, 7, 7))
	}
	spoil(l, api.Step{})
	if told(w, es) != want {
		t.Errorf("the answer is %s now, not %s", told(w, es), want)
	}
	l = made()
	w, es, _ = Play(3, l)
	spoilAll(w)
	spoil(es, 7)
	if tell(l) != before {
		t.Errorf("behind the call the steps are %s, not %s", tell(l), before)
	}
	if w, es, _ = Play(3, l); told(w, es) != want {
		t.Errorf("once more %+v, %v is played, not %s", w, es, want)
	}
}

// apart: no two of these lists have memory in common.
func apart[T comparable](t *testing.T, name string, lists [][]T, each func(i int) T) {
	t.Helper()
	for i, l := range lists {
		spoil(l, each(i))
	}
	for i, l := range lists {
		if slices.ContainsFunc(l[:cap(l)], func(x T) bool { return x != each(i) }) {
			t.Fatalf("%s: list %d of %d of %T is also another one", name, i, len(lists), l)
		}
	}
}

// TestNothingShared: no two lists of one answer have memory in common, also where those that came in have.
func TestNothingShared(t *testing.T) {
	for _, w := range worlds(t) {
		if len(w.Houses) > 1 {
			w.Houses[1] = w.Houses[0]
		}
		for _, c := range acts() {
			got, _ := c.do(w)
			apart(t, c.name, partLists(got), func(i int) api.Part { return at(i, i, i) })
			apart(t, c.name, numberLists(got), func(i int) int { return i })
			var logs [][]int
			for n, h := range got.Houses {
				spoil(h.Log, rec(n, n))
				spoil(h.Ready, api.Ready{Deed: n})
			}
			for n, h := range got.Houses {
				for _, r := range h.Log[:cap(h.Log)] {
					logs = append(logs, []int{r.Deed, n})
				}
				for _, d := range h.Ready[:cap(h.Ready)] {
					logs = append(logs, []int{d.Deed, n})
				}
			}
			if slices.ContainsFunc(logs, func(l []int) bool { return l[0] != l[1] }) {
				t.Fatalf("%s: two houses have one list", c.name)
			}
		}
	}
	l := times(2, begins(three()...))
	w, _, _ := Play(3, l)
	apart(t, "Play", partLists(w), func(i int) api.Part { return at(i, i, i) })
	apart(t, "Play", w.Net, func(i int) byte { return byte(i) })
}

// TestSameAgain: what is answered hangs on what is handed in, and on nothing else.
func TestSameAgain(t *testing.T) {
	for _, w := range worlds(t) {
		for _, c := range acts() {
			a, n := c.do(w)
			for range 5 {
				if b, m := c.do(world.Own(w)); told(a, n) != told(b, m) {
					t.Errorf("%s of %+v is %+v, %d, and then %+v, %d", c.name, w, a, n, b, m)
				}
			}
		}
	}
}

// TestNoPanic: of worlds that none of these make, and of wrong steps, nothing is promised, but no call panics over them, and each ends.
func TestNoPanic(t *testing.T) {
	edges := []int{math.MinInt, -1, 0, 1, 3, 4, math.MaxInt}
	var wild []api.Part
	for _, n := range edges {
		wild = append(wild, at(n, n, n), at(0, n, n), at(n, 0, 1))
	}
	odd := api.World{Head: api.Head{Boot: math.MaxInt, Next: math.MinInt}, Houses: make([]api.House, 5)}
	for _, deed := range append(edges, 64) {
		odd.Head.Log = append(odd.Head.Log, commit(deed, wild...), rec(deed, deed))
		odd.Head.Open = append(odd.Head.Open, open(deed, wild, edges...), decided(deed, nil), decided(deed, wild), open(deed, row(0)))
		odd.Houses[1].Log = append(odd.Houses[1].Log, rec(api.RecReady, deed, wild...), rec(api.RecDone, deed))
		odd.Houses[2].Ready = append(odd.Houses[2].Ready, api.Ready{Deed: deed, Parts: wild})
	}
	for kind := api.MsgPrepare; kind <= api.MsgAsk; kind++ {
		for h := range api.MaxHouses {
			m := msg(kind, 64, h)
			if kind == api.MsgPrepare {
				m.Parts = parts(at(h, 0, 1))
			}
			odd.Net = append(odd.Net, wire.Bytes(m), []byte("zap"), nil)
		}
	}
	noHouses, noHead := odd, odd
	noHouses.Houses, noHead.Head = nil, api.Head{}
	for _, w := range []api.World{{}, odd, noHouses, noHead, {Net: odd.Net}} {
		for _, c := range acts() {
			c.do(w)
		}
	}
	var l []api.Step
	for _, n := range edges {
		for kind := -1; kind < 10; kind++ {
			l = append(l, api.Step{Kind: kind, N: n, Parts: wild}, api.Step{Kind: n, N: kind})
		}
	}
	for _, houses := range append(edges, 2) {
		Play(houses, l)
		Play(houses, l[:150])
	}
}
