package net

import (
	"bytes"
	"fmt"
	"math"
	"slices"
	"testing"

	"allornone/api"
	"allornone/wire"
)

// msg is a message, written short.
func msg(kind, deed, house int, l ...api.Part) api.Msg {
	return api.Msg{Kind: kind, Deed: deed, House: house, Parts: l}
}

func msgs(l ...api.Msg) []api.Msg { return l }

func at(house, key, n int) api.Part { return api.Part{House: house, Key: key, N: n} }

func net(l ...[]byte) [][]byte { return l }

// told is how a value is told; nil and empty lists are told alike.
func told(x ...any) string { return fmt.Sprintf("%+v", x) }

// kinds are right messages, one of each kind, no two alike.
func kinds() []api.Msg {
	return msgs(
		msg(api.MsgPrepare, 70, 2, at(2, 1, -5), at(2, 0, 300)),
		msg(api.MsgYes, 64, 0),
		msg(api.MsgNo, 65, 1),
		msg(api.MsgCommit, 1343, 2),
		msg(api.MsgAbort, 0, 0),
		msg(api.MsgAck, 66, 1),
		msg(api.MsgAsk, 64, 2))
}

// asks are n right messages, no two alike.
func asks(n int) []api.Msg {
	var out []api.Msg
	for deed := range n {
		out = append(out, msg(api.MsgAsk, 64+deed, deed%api.MaxHouses))
	}
	return out
}

// written is how right messages are on their way: wire's bytes, one behind the other.
func written(l ...api.Msg) [][]byte {
	var out [][]byte
	for _, m := range l {
		out = append(out, wire.Bytes(m))
	}
	return out
}

// sealed answers these bytes with their sum behind them.
func sealed(body ...byte) []byte {
	s := wire.Sum(body)
	return append(slices.Clone(body), byte(s/256), byte(s%256))
}

// spoilt are bytes that are no right message, and wire's error of each.
func spoilt() ([][]byte, []api.Errno) {
	turned := wire.Bytes(msg(api.MsgYes, 64, 0))
	turned[1] ^= 1
	return net(nil, []byte{}, []byte{7, 0}, []byte("zap"), turned,
			sealed(7, 128), sealed(7, 128, 0, 0, 0), sealed(7, 0, 0, 0, 0), sealed(0, 0, 0, 0), sealed(7, 0, 6, 0), sealed(2, 0, 0, 2, 0, 2), sealed(1, 0, 0, 4, 2, 2, 2, 4)),
		[]api.Errno{api.ErrEnd, api.ErrEnd, api.ErrEnd, api.ErrSum, api.ErrSum,
			api.ErrEnd, api.ErrForm, api.ErrForm, api.ErrKind, api.ErrRange, api.ErrMany, api.ErrMuch}
}

// some is what is on its way, at all edges: all kinds, the same one twice, and what is spoilt.
func some() [][]byte {
	bad, _ := spoilt()
	return slices.Concat(written(kinds()...), written(kinds()[1]), bad[:4])
}

// nets are of all lengths around MaxNet, and of what may be on its way.
func nets() [][][]byte {
	bad, _ := spoilt()
	out := [][][]byte{nil, {}, bad, some(), written(kinds()...)}
	for n := range api.MaxNet + 4 {
		out = append(out, written(asks(n)...))
	}
	return out
}

// without is l, but for the one at place n.
func without(l [][]byte, n int) [][]byte {
	var out [][]byte
	for i, b := range l {
		if i != n {
			out = append(out, b)
		}
	}
	return out
}

// noPlaces are numbers at which a net has nothing.
func noPlaces(l [][]byte) []int {
	return []int{-1, math.MinInt, len(l), len(l) + 1, api.MaxNet + 9, math.MaxInt}
}

func TestOwn(t *testing.T) {
	for _, l := range nets() {
		if got := Own(l); told(got) != told(l) {
			t.Errorf("Own(%v) is %v", l, got)
		}
	}
}

func TestSend(t *testing.T) {
	for _, c := range []struct {
		name string
		l    [][]byte
		ms   []api.Msg
		want [][]byte
	}{
		{"nothing, nowhere", nil, nil, nil},
		{"nothing, empty", net(), msgs(), nil},
		{"one", nil, msgs(msg(api.MsgAsk, 0, 0)), net([]byte{7, 0, 0, 0, 191, 156})},
		{"with parts", nil, kinds()[:1], net([]byte{1, 140, 1, 4, 4, 2, 9, 0, 216, 4, 28, 62})},
		{"the head's and a house's", nil, msgs(msg(api.MsgYes, 64, 0), msg(api.MsgNo, 65, 1)),
			net([]byte{2, 128, 1, 0, 0, 181, 86}, []byte{3, 130, 1, 2, 0, 28, 139})},
		{"one of each kind", nil, kinds(), written(kinds()...)},
		{"nothing behind some", some(), nil, some()},
		{"some behind some", some(), kinds(), slices.Concat(some(), written(kinds()...))},
		{"the same again", written(kinds()...), kinds(), slices.Concat(written(kinds()...), written(kinds()...))},
		{"the same one twice at once", nil, msgs(kinds()[2], kinds()[2]), written(kinds()[2], kinds()[2])},
	} {
		if got := Send(c.l, c.ms); told(got) != told(c.want) {
			t.Errorf("%s: Send(%v, %v) is %v, not %v", c.name, c.l, c.ms, got, c.want)
		}
	}
}

// TestSendFull: of many messages only the first ones have room; what was there stays, also where it is too much.
func TestSendFull(t *testing.T) {
	for there := range api.MaxNet + 4 {
		for more := range api.MaxNet + 4 {
			all := asks(there + more)
			l := written(all[:there]...)
			want := written(all[:max(there, min(there+more, api.MaxNet))]...)
			if got := Send(l, all[there:]); told(got) != told(want) {
				t.Fatalf("behind %d messages %d more are %v, not %v", there, more, got, want)
			}
		}
	}
	if got := len(Send(nil, asks(100))); got != 24 {
		t.Errorf("of 100 messages %d are on their way, not 24", got)
	}
}

func TestTake(t *testing.T) {
	for _, c := range []struct {
		n    int
		left [][]byte
		m    api.Msg
		err  api.Errno
	}{
		{-1, net([]byte{2, 128, 1, 0, 0, 181, 86}, []byte{3, 130, 1, 2, 0, 28, 139}, []byte("zap")), api.Msg{}, api.ErrNone},
		{0, net([]byte{3, 130, 1, 2, 0, 28, 139}, []byte("zap")), msg(api.MsgYes, 64, 0), api.OK},
		{1, net([]byte{2, 128, 1, 0, 0, 181, 86}, []byte("zap")), msg(api.MsgNo, 65, 1), api.OK},
		{2, net([]byte{2, 128, 1, 0, 0, 181, 86}, []byte{3, 130, 1, 2, 0, 28, 139}), api.Msg{}, api.ErrSum},
		{3, net([]byte{2, 128, 1, 0, 0, 181, 86}, []byte{3, 130, 1, 2, 0, 28, 139}, []byte("zap")), api.Msg{}, api.ErrNone},
	} {
		l := net([]byte{2, 128, 1, 0, 0, 181, 86}, []byte{3, 130, 1, 2, 0, 28, 139}, []byte("zap"))
		left, m, err := Take(l, c.n)
		if told(left, m, err) != told(c.left, c.m, c.err) {
			t.Errorf("Take(%v, %d) is %v, %v, %d, not %v, %v, %d", l, c.n, left, m, err, c.left, c.m, c.err)
		}
	}
}

// TestTakeEach: what was sent comes, from whatever place, and the others stay in turn.
func TestTakeEach(t *testing.T) {
	for _, all := range [][]api.Msg{kinds(), asks(1), asks(api.MaxNet)} {
		l := Send(nil, all)
		for n, sent := range all {
			left, m, err := Take(l, n)
			if told(left, m, err) != told(without(l, n), sent, api.OK) {
				t.Errorf("Take(%v, %d) is %v, %v, %d", l, n, left, m, err)
			}
		}
		for _, sent := range all {
			left, m, err := Take(l, 0)
			if told(m, err) != told(sent, api.OK) {
				t.Errorf("of %v comes %v, %d, not %v", l, m, err, sent)
			}
			l = left
		}
		if len(l) > 0 {
			t.Errorf("when all came %v is left", l)
		}
	}
}

// TestTakeBeyond: places from MaxNet on are places, too, where something is there.
func TestTakeBeyond(t *testing.T) {
	all := asks(api.MaxNet + 3)
	l := written(all...)
	for n, sent := range all {
		left, m, err := Take(l, n)
		if told(left, m, err) != told(without(l, n), sent, api.OK) {
			t.Errorf("Take of %d, at %d, is %v, %v, %d", len(l), n, left, m, err)
		}
	}
}

// TestTakeSpoilt: what is spoilt is told, and is there no more.
func TestTakeSpoilt(t *testing.T) {
	bad, errs := spoilt()
	for n, want := range errs {
		left, m, err := Take(bad, n)
		if told(left, m, err) != told(without(bad, n), api.Msg{}, want) {
			t.Errorf("Take(%v, %d) is %v, %v, %d, not error %d", bad, n, left, m, err, want)
		}
	}
}

// TestNoPlace: at a place that is not there nothing is taken, and nothing is there twice.
func TestNoPlace(t *testing.T) {
	for _, l := range nets() {
		for _, n := range noPlaces(l) {
			left, m, err := Take(l, n)
			if told(left, m, err) != told(l, api.Msg{}, api.ErrNone) {
				t.Errorf("Take(%v, %d) is %v, %v, %d", l, n, left, m, err)
			}
			if twice, err := Twice(l, n); told(twice, err) != told(l, api.ErrNone) {
				t.Errorf("Twice(%v, %d) is %v, %d", l, n, twice, err)
			}
		}
	}
}

// TestTwice: of whatever is on its way, spoilt or not, there is one more, last; where there is no room, all is as it was.
func TestTwice(t *testing.T) {
	for _, l := range nets() {
		for n := range l {
			want := slices.Clone(l)
			if len(l) < api.MaxNet {
				want = append(want, l[n])
			}
			if got, err := Twice(l, n); told(got, err) != told(want, api.OK) {
				t.Errorf("Twice(%v, %d) is %v, %d", l, n, got, err)
			}
		}
	}
}

func TestTwiceEdges(t *testing.T) {
	l := Send(nil, asks(23))
	l, err := Twice(l, 22)
	if len(l) != 24 || err != api.OK || !bytes.Equal(l[22], l[23]) {
		t.Errorf("the last one twice, where one has room: %v, %d", l, err)
	}
	if got, err := Twice(l, 23); told(got, err) != told(l, api.OK) {
		t.Errorf("where there is no room, twice is %v, %d", got, err)
	}
	if got, err := Twice(l, 24); told(got, err) != told(l, api.ErrNone) {
		t.Errorf("where there is no room, and no place 24, twice is %v, %d", got, err)
	}
}

// TestTwiceComesTwice: a message that is there twice comes twice.
func TestTwiceComesTwice(t *testing.T) {
	for n, sent := range kinds() {
		l, _ := Twice(Send(nil, kinds()), n)
		left, first, err := Take(l, n)
		if told(first, err) != told(sent, api.OK) {
			t.Errorf("first comes %v, %d, not %v", first, err, sent)
		}
		left, again, err := Take(left, len(left)-1)
		if told(again, err) != told(sent, api.OK) || told(left) != told(without(l[:len(l)-1], n)) {
			t.Errorf("then comes %v, %d, not %v, and %v is left", again, err, sent, left)
		}
	}
}

// act is a call that answers a net, and maybe parts of a message.
type act struct {
	name string
	do   func(l [][]byte, ms []api.Msg) ([][]byte, []api.Part)
}

// calls are all that may be asked of a net.
func calls() []act {
	out := []act{
		{"own", func(l [][]byte, ms []api.Msg) ([][]byte, []api.Part) { return Own(l), nil }},
		{"send", func(l [][]byte, ms []api.Msg) ([][]byte, []api.Part) { return Send(l, ms), nil }},
		{"send nothing", func(l [][]byte, ms []api.Msg) ([][]byte, []api.Part) { return Send(l, nil), nil }},
	}
	for n := -1; n < api.MaxNet+4; n++ {
		out = append(out,
			act{told("take", n), func(l [][]byte, ms []api.Msg) ([][]byte, []api.Part) {
				l, m, _ := Take(l, n)
				return l, m.Parts
			}},
			act{told("twice", n), func(l [][]byte, ms []api.Msg) ([][]byte, []api.Part) {
				l, _ = Twice(l, n)
				return l, nil
			}})
	}
	return out
}

// crowded is a net with room behind all its lists that holds something else: it must neither be looked at nor be changed.
func crowded(l [][]byte) [][]byte {
	out := make([][]byte, 0, len(l)+3)
	for _, b := range l {
		room := make([]byte, 0, len(b)+20)
		out = append(out, append(append(room, b...), 77, 77, 77)[:len(b)])
	}
	return append(out, sealed(7, 0, 0, 0), []byte("zip"))[:len(l)]
}

// crowdedMsgs are right messages with room behind them, and behind their parts.
func crowdedMsgs() []api.Msg {
	out := append(kinds(), msg(api.MsgAck, 1, 1), msg(9, 9, 9))
	out[0].Parts = append(out[0].Parts, at(2, 3, 9), at(9, 9, 9))[:2]
	return out[:len(kinds())]
}

// roomy is how a net, and messages, are told with the room behind their lists.
func roomy(l [][]byte, ms []api.Msg) string {
	out := ""
	for _, b := range l[:cap(l)] {
		out += told(b[:cap(b)])
	}
	for _, m := range ms[:cap(ms)] {
		out += told(m, m.Parts[:cap(m.Parts)])
	}
	return out
}

// spoil writes over a list, and the room behind it.
func spoil[T any](l []T, x T) {
	l = l[:cap(l)]
	for i := range l {
		l[i] = x
	}
}

func spoilAll(l [][]byte, p []api.Part) {
	for _, b := range l {
		spoil(b, 99)
	}
	spoil(l, []byte{98})
	spoil(p, at(7, 7, 7))
}

func TestOnlyRead(t *testing.T) {
	for _, clean := range nets() {
		l, ms := crowded(clean), crowdedMsgs()
		before := roomy(l, ms)
		for _, c := range calls() {
			got, parts := c.do(l, ms)
			want, should := c.do(clean, kinds())
			if told(got, parts) != told(want, should) {
				t.Errorf("%s, with room behind the lists: %v, %v, not %v, %v", c.name, got, parts, want, should)
			}
			spoilAll(got, parts)
			if roomy(l, ms) != before {
				t.Fatalf("behind %s what was handed in is %s, not %s", c.name, roomy(l, ms), before)
			}
		}
	}
}

// TestNothingKept: what is handed in may be changed behind the call, and answers stay as they are.
func TestNothingKept(t *testing.T) {
	for _, clean := range nets() {
		for _, c := range calls() {
			l, ms := crowded(clean), crowdedMsgs()
			got, parts := c.do(l, ms)
			want := told(got, parts)
			spoilAll(l, ms[0].Parts)
			spoil(ms, msg(9, 9, 9))
			if now := told(got, parts); now != want {
				t.Errorf("%s: the answer is %s now, not %s", c.name, now, want)
			}
		}
	}
}

// TestNothingShared: no two lists of one answer have memory in common, also where those that came in have.
func TestNothingShared(t *testing.T) {
	b := wire.Bytes(kinds()[0])
	for _, l := range append(nets(), net(b, b, b), net(b[:3], b[3:], b)) {
		for _, c := range calls() {
			got, _ := c.do(l, msgs(kinds()[0], kinds()[0]))
			for i, b := range got {
				spoil(b, byte(i))
			}
			for i, b := range got {
				if slices.ContainsFunc(b[:cap(b)], func(c byte) bool { return c != byte(i) }) {
					t.Fatalf("%s: message %d of %v is also another one", c.name, i, got)
				}
			}
		}
	}
}

// TestNoPanic: of messages that are not right nothing is promised, but no call panics over them.
func TestNoPanic(t *testing.T) {
	edges := []int{math.MinInt, -1, 0, 1, 7, 8, math.MaxInt}
	var wild []api.Msg
	for _, n := range edges {
		wild = append(wild, msg(n, n, n, at(n, n, n)), msg(api.MsgPrepare, n, n), msg(api.MsgYes, n, n, make([]api.Part, 99)...))
	}
	for _, l := range nets() {
		sent := Send(l, wild)
		for _, n := range edges {
			Take(sent, n)
			Twice(sent, n)
			Own(Send(l, wild[3:]))
		}
	}
}
