package wire

import (
	"bytes"
	"math"
	"slices"
	"testing"

	"allornone/api"
)

// at is a part, written short.
func at(house, key, n int) api.Part { return api.Part{House: house, Key: key, N: n} }

func same(a, b api.Msg) bool {
	return a.Kind == b.Kind && a.Deed == b.Deed && a.House == b.House && slices.Equal(a.Parts, b.Parts)
}

// sealed answers these bytes with their sum behind them.
func sealed(body ...byte) []byte {
	s := Sum(body)
	return append(slices.Clone(body), byte(s/256), byte(s%256))
}

// rightOnes answers right messages, no two alike: of all kinds, at all edges.
func rightOnes() []api.Msg {
	var out []api.Msg
	for kind := api.MsgYes; kind <= api.MsgAsk; kind++ {
		for _, deed := range []int{0, 1, 63, 64, 70, 1343} {
			for house := range api.MaxHouses {
				out = append(out, api.Msg{Kind: kind, Deed: deed, House: house})
			}
		}
	}
	for house := range api.MaxHouses {
		for _, n := range []int{0, 1, -1, 63, 64, -64, -65, 300, -300, 8191, 8192, api.MaxSum, -api.MaxSum} {
			out = append(out,
				api.Msg{Kind: api.MsgPrepare, Deed: 70, House: house, Parts: []api.Part{at(house, 3, n)}},
				api.Msg{Kind: api.MsgPrepare, Deed: 70, House: house, Parts: []api.Part{at(house, 1, n), at(house, 0, n)}},
				api.Msg{Kind: api.MsgPrepare, Deed: 70, House: house, Parts: []api.Part{at(house, 0, n), at(house, 1, n)}},
				api.Msg{Kind: api.MsgPrepare, Deed: 1343, House: house, Parts: []api.Part{at(house, 0, n), at(house, 1, -5), at(house, 2, 7), at(house, 3, -n)}})
		}
	}
	return out
}

func TestSum(t *testing.T) {
	for _, c := range []struct {
		b    []byte
		want int
	}{
		{nil, 5},
		{[]byte{}, 5},
		{[]byte{0}, 5*263 + 1},
		{[]byte{255}, 5*263 + 256},
		{[]byte{0, 0}, (5*263+1)*263 + 1 - 5*65521},
		{[]byte{128, 0}, 52168},
		{[]byte{129, 1, 7}, 30214},
		{[]byte{255, 255, 255, 255, 255, 255, 0}, 38693},
	} {
		if got := Sum(c.b); got != c.want {
			t.Errorf("Sum(%v) is %d, not %d", c.b, got, c.want)
		}
	}
	if Sum([]byte{1, 2}) == Sum([]byte{2, 1}) {
		t.Error("the order of bytes is not seen")
	}
}

func TestSumLong(t *testing.T) {
	b := bytes.Repeat([]byte{255, 0, 7}, 30000)
	want := 5
	for _, c := range b {
		want = (want*263 + int(c) + 1) % 65521
	}
	if got := Sum(b); got != want || got < 0 || got >= 65521 {
		t.Errorf("of many bytes the sum is %d, not %d", got, want)
	}
}

func TestNumber(t *testing.T) {
	for _, c := range []struct {
		n    int
		want []byte
	}{
		{0, []byte{0}},
		{-1, []byte{1}},
		{1, []byte{2}},
		{63, []byte{126}},
		{-64, []byte{127}},
		{64, []byte{128, 1}},
		{-65, []byte{129, 1}},
		{-300, []byte{215, 4}},
		{300, []byte{216, 4}},
		{8191, []byte{254, 127}},
		{-8192, []byte{255, 127}},
		{8192, []byte{128, 128, 1}},
		{-8193, []byte{129, 128, 1}},
		{api.MaxSum, []byte{128, 128, 128, 1}},
		{1<<40 - 1, []byte{254, 255, 255, 255, 255, 63}},
		{-1<<40 + 1, []byte{253, 255, 255, 255, 255, 63}},
	} {
		if got := Number(nil, c.n); !bytes.Equal(got, c.want) {
			t.Errorf("Number(nil, %d) is %v, not %v", c.n, got, c.want)
		}
		want := append([]byte{9, 8}, c.want...)
		if got := Number([]byte{9, 8}, c.n); !bytes.Equal(got, want) {
			t.Errorf("Number([9 8], %d) is %v, not %v", c.n, got, want)
		}
		n, k, err := Get(append(slices.Clone(c.want), 255, 0, 1))
		if n != c.n || k != len(c.want) || err != api.OK {
			t.Errorf("of %v and more Get answers %d, %d, %d", c.want, n, k, err)
		}
	}
}

func TestNumberThereAndBack(t *testing.T) {
	for shift := range 40 {
		for _, n := range []int{1<<shift - 1, 1 << shift, 1<<shift + 1} {
			for _, n := range []int{n, -n} {
				b := Number(nil, n)
				got, k, err := Get(b)
				if got != n || k != len(b) || err != api.OK {
					t.Errorf("%d is written as %v, and read as %d, %d, %d", n, b, got, k, err)
				}
				for i := range b {
					got, k, err := Get(b[:i])
					if got != 0 || k != 0 || err != api.ErrEnd {
						t.Errorf("of %v, the beginning of %v, Get answers %d, %d, %d", b[:i], b, got, k, err)
					}
				}
			}
		}
	}
}

func TestGet(t *testing.T) {
	for _, c := range []struct {
		name string
		b    []byte
		n, k int
		err  api.Errno
	}{
		{"nil", nil, 0, 0, api.ErrEnd},
		{"empty", []byte{}, 0, 0, api.ErrEnd},
		{"0", []byte{0}, 0, 1, api.OK},
		{"0, and more", []byte{0, 0}, 0, 1, api.OK},
		{"more behind it means nothing", []byte{129, 1, 7}, -65, 2, api.OK},
		{"only a beginning", []byte{128}, 0, 0, api.ErrEnd},
		{"last byte 0", []byte{128, 0}, 0, 0, api.ErrForm},
		{"last byte 0, and more", []byte{129, 0, 1}, 0, 0, api.ErrForm},
		{"last of six bytes 0", []byte{255, 255, 255, 255, 255, 0}, 0, 0, api.ErrForm},
		{"last of six bytes 0, and more", []byte{255, 255, 255, 255, 255, 0, 1}, 0, 0, api.ErrForm},
		{"byte 0 within is the last one", []byte{128, 0, 5}, 0, 0, api.ErrForm},
		{"six bytes, greatest", []byte{254, 255, 255, 255, 255, 127}, 1<<41 - 1, 6, api.OK},
		{"six bytes, least", []byte{255, 255, 255, 255, 255, 127}, -1 << 41, 6, api.OK},
		{"six bytes, and more", []byte{128, 128, 128, 128, 128, 1, 255}, 1 << 34, 6, api.OK},
		{"six from 128 on", []byte{128, 128, 128, 128, 128, 128}, 0, 0, api.ErrEnd},
		{"six from 128 on, and 0", []byte{128, 128, 128, 128, 128, 128, 0}, 0, 0, api.ErrRange},
		{"six from 128 on, and 1", []byte{255, 255, 255, 255, 255, 255, 1}, 0, 0, api.ErrRange},
		{"seven from 128 on", []byte{255, 255, 255, 255, 255, 255, 255}, 0, 0, api.ErrRange},
		{"very many from 128 on", bytes.Repeat([]byte{255}, 1000), 0, 0, api.ErrRange},
	} {
		n, k, err := Get(c.b)
		if n != c.n || k != c.k || err != c.err {
			t.Errorf("%s: Get(%v) is %d, %d, %d, not %d, %d, %d", c.name, c.b, n, k, err, c.n, c.k, c.err)
		}
	}
}

func TestWrong(t *testing.T) {
	one := []api.Part{at(0, 1, 5)}
	for _, c := range []struct {
		name string
		m    api.Msg
		want api.Errno
	}{
		{"nothing", api.Msg{}, api.ErrKind},
		{"kind behind the last", api.Msg{Kind: 8}, api.ErrKind},
		{"kind below 0", api.Msg{Kind: -1}, api.ErrKind},
		{"kind of more than a byte", api.Msg{Kind: 256 + api.MsgYes}, api.ErrKind},
		{"greatest kind", api.Msg{Kind: math.MaxInt}, api.ErrKind},
		{"kind ahead of all else", api.Msg{Kind: 0, Deed: -1, House: 9, Parts: one}, api.ErrKind},
		{"yes", api.Msg{Kind: api.MsgYes}, api.OK},
		{"no", api.Msg{Kind: api.MsgNo, Parts: []api.Part{}}, api.OK},
		{"commit", api.Msg{Kind: api.MsgCommit, House: 1}, api.OK},
		{"abort", api.Msg{Kind: api.MsgAbort, House: 2}, api.OK},
		{"ack", api.Msg{Kind: api.MsgAck, Deed: 64}, api.OK},
		{"ask", api.Msg{Kind: api.MsgAsk, Deed: 1343}, api.OK},
		{"deed behind the last", api.Msg{Kind: api.MsgAsk, Deed: 1344}, api.ErrRange},
		{"deed below 0", api.Msg{Kind: api.MsgAsk, Deed: -1}, api.ErrRange},
		{"greatest deed", api.Msg{Kind: api.MsgAsk, Deed: math.MaxInt}, api.ErrRange},
		{"house behind the last", api.Msg{Kind: api.MsgAsk, House: 3}, api.ErrRange},
		{"house below 0", api.Msg{Kind: api.MsgAsk, House: -1}, api.ErrRange},
		{"yes with parts", api.Msg{Kind: api.MsgYes, Parts: one}, api.ErrMany},
		{"no with parts", api.Msg{Kind: api.MsgNo, Parts: one}, api.ErrMany},
		{"commit with parts", api.Msg{Kind: api.MsgCommit, Parts: one}, api.ErrMany},
		{"abort with parts", api.Msg{Kind: api.MsgAbort, Parts: one}, api.ErrMany},
		{"ack with parts", api.Msg{Kind: api.MsgAck, Parts: one}, api.ErrMany},
		{"ask with parts that are wrong", api.Msg{Kind: api.MsgAsk, Parts: []api.Part{at(9, 9, 9)}}, api.ErrMany},
		{"house ahead of parts", api.Msg{Kind: api.MsgAsk, House: 3, Parts: one}, api.ErrRange},
		{"prepare", api.Msg{Kind: api.MsgPrepare, Deed: 64, Parts: one}, api.OK},
		{"prepare, as many as may be", api.Msg{Kind: api.MsgPrepare, House: 2, Parts: []api.Part{at(2, 3, 1), at(2, 2, 1), at(2, 1, 1), at(2, 0, 1)}}, api.OK},
		{"prepare, deed behind the last", api.Msg{Kind: api.MsgPrepare, Deed: 1344, Parts: one}, api.ErrRange},
		{"prepare, deed ahead of parts", api.Msg{Kind: api.MsgPrepare, Deed: -1}, api.ErrRange},
		{"prepare, house behind the last", api.Msg{Kind: api.MsgPrepare, House: 3, Parts: []api.Part{at(3, 0, 1)}}, api.ErrRange},
		{"prepare, no parts", api.Msg{Kind: api.MsgPrepare}, api.ErrMany},
		{"prepare, too many", api.Msg{Kind: api.MsgPrepare, Parts: make([]api.Part, 5)}, api.ErrMany},
		{"prepare, key out of range", api.Msg{Kind: api.MsgPrepare, Parts: []api.Part{at(0, 4, 1)}}, api.ErrRange},
		{"prepare, too much", api.Msg{Kind: api.MsgPrepare, Parts: []api.Part{at(0, 0, api.MaxSum+1)}}, api.ErrRange},
		{"prepare, same place", api.Msg{Kind: api.MsgPrepare, Parts: []api.Part{at(0, 1, 1), at(0, 1, 2)}}, api.ErrMuch},
		{"prepare, of another house", api.Msg{Kind: api.MsgPrepare, House: 1, Parts: one}, api.ErrRange},
		{"prepare, one of another house", api.Msg{Kind: api.MsgPrepare, Parts: []api.Part{at(0, 1, 1), at(0, 2, 1), at(1, 1, 1)}}, api.ErrRange},
		{"prepare, of another house, then same place", api.Msg{Kind: api.MsgPrepare, Parts: []api.Part{at(1, 1, 1), at(0, 2, 1), at(0, 2, 1)}}, api.ErrMuch},
		{"prepare, same place of another house", api.Msg{Kind: api.MsgPrepare, Parts: []api.Part{at(1, 1, 1), at(1, 1, 1)}}, api.ErrMuch},
	} {
		if got := Wrong(c.m); got != c.want {
			t.Errorf("%s: Wrong(%v) is %d, not %d", c.name, c.m, got, c.want)
		}
	}
	for _, m := range rightOnes() {
		if got := Wrong(m); got != api.OK {
			t.Errorf("Wrong(%v) is %d", m, got)
		}
	}
}

func TestBytes(t *testing.T) {
	for _, c := range []struct {
		m    api.Msg
		want []byte
	}{
		{api.Msg{Kind: api.MsgAsk}, []byte{7, 0, 0, 0, 191, 156}},
		{api.Msg{Kind: api.MsgYes, Deed: 1343, House: 1}, []byte{2, 254, 20, 2, 0, 202, 206}},
		{api.Msg{Kind: api.MsgPrepare, Deed: 70, House: 2, Parts: []api.Part{at(2, 1, -5), at(2, 0, 300)}},
			[]byte{1, 140, 1, 4, 4, 2, 9, 0, 216, 4, 28, 62}},
	} {
		if got := Bytes(c.m); !bytes.Equal(got, c.want) {
			t.Errorf("Bytes(%v) is %v, not %v", c.m, got, c.want)
		}
	}
}

func TestThereAndBack(t *testing.T) {
	seen := map[string]api.Msg{}
	for _, m := range rightOnes() {
		b := Bytes(m)
		got, err := Read(b)
		if err != api.OK || !same(got, m) {
			t.Errorf("%v is written as %v, and read as %v, %d", m, b, got, err)
		}
		if other, ok := seen[string(b)]; ok {
			t.Errorf("%v and %v are written alike", other, m)
		}
		seen[string(b)] = m
	}
}

func TestOneByteTurned(t *testing.T) {
	for _, m := range rightOnes() {
		b := Bytes(m)
		for k := range b {
			for turn := 1; turn < 256; turn++ {
				b[k] ^= byte(turn)
				if got, err := Read(b); err != api.ErrSum || !same(got, api.Msg{}) {
					t.Fatalf("of %v with byte %d turned by %d comes %v, %d", m, k, turn, got, err)
				}
				b[k] ^= byte(turn)
			}
		}
	}
}

func TestReadWrong(t *testing.T) {
	for _, c := range []struct {
		name string
		b    []byte
		want api.Errno
	}{
		{"nil", nil, api.ErrEnd},
		{"one byte", []byte{7}, api.ErrEnd},
		{"the sum of nothing", sealed(), api.ErrEnd},
		{"three bytes, spoilt", []byte{7, 0, 0}, api.ErrSum},
		{"the sum the other way round", []byte{7, 0, 0, 0, 156, 191}, api.ErrSum},
		{"a byte behind", []byte{7, 0, 0, 0, 191, 156, 0}, api.ErrSum},
		{"spoilt ahead of too short", []byte{7, 128, 0, 0}, api.ErrSum},
		{"no deed", sealed(7), api.ErrEnd},
		{"no deed, no such kind", sealed(0), api.ErrEnd},
		{"half a deed", sealed(7, 128), api.ErrEnd},
		{"no house", sealed(7, 0), api.ErrEnd},
		{"half a house", sealed(7, 0, 129), api.ErrEnd},
		{"not how many", sealed(7, 0, 0), api.ErrEnd},
		{"deed not as short as may be", sealed(7, 128, 0, 0, 0), api.ErrForm},
		{"house not as short as may be", sealed(7, 0, 130, 0, 0), api.ErrForm},
		{"how many not as short as may be", sealed(1, 0, 0, 130, 0, 0, 0), api.ErrForm},
		{"key not as short as may be", sealed(1, 0, 0, 2, 130, 0, 0), api.ErrForm},
		{"N not as short as may be", sealed(1, 0, 0, 2, 2, 130, 0), api.ErrForm},
		{"deed too long", sealed(7, 255, 255, 255, 255, 255, 255, 1, 0, 0), api.ErrRange},
		{"N too long", sealed(1, 0, 0, 2, 0, 255, 255, 255, 255, 255, 255, 1), api.ErrRange},
		{"first error of numbers: end behind form", sealed(7, 128, 0, 128), api.ErrForm},
		{"deed of six bytes that go on: the sum does not belong to it", sealed(7, 255, 255, 255, 255, 255, 255), api.ErrEnd},
		{"parts below 0", sealed(1, 0, 0, 1), api.ErrMany},
		{"parts below 0 of ask", sealed(7, 0, 0, 1), api.ErrMany},
		{"parts below 0, and something left", sealed(7, 0, 0, 3, 0), api.ErrMany},
		{"one part too many", sealed(1, 0, 0, 10, 0, 2, 2, 2, 4, 2, 6, 2, 0, 2), api.ErrMany},
		{"very many parts", sealed(1, 0, 0, 254, 255, 255, 255, 255, 127), api.ErrMany},
		{"how many ahead of what is left", sealed(1, 0, 0, 10, 128, 0), api.ErrMany},
		{"how many ahead of kind", sealed(9, 0, 0, 10), api.ErrMany},
		{"key missing", sealed(1, 0, 0, 2), api.ErrEnd},
		{"N missing", sealed(1, 0, 0, 2, 0), api.ErrEnd},
		{"second part missing", sealed(1, 0, 0, 4, 0, 2), api.ErrEnd},
		{"something left", sealed(7, 0, 0, 0, 0), api.ErrForm},
		{"something left behind parts", sealed(1, 0, 0, 2, 0, 2, 0), api.ErrForm},
		{"something left, ahead of kind", sealed(0, 0, 0, 0, 0), api.ErrForm},
		{"no such kind", sealed(0, 0, 0, 0), api.ErrKind},
		{"kind behind the last", sealed(8, 0, 0, 0), api.ErrKind},
		{"greatest kind", sealed(255, 0, 0, 0), api.ErrKind},
		{"deed below 0", sealed(7, 1, 0, 0), api.ErrRange},
		{"deed behind the last", sealed(7, 128, 21, 0, 0), api.ErrRange},
		{"house below 0", sealed(7, 0, 1, 0), api.ErrRange},
		{"house behind the last", sealed(7, 0, 6, 0), api.ErrRange},
		{"no parts of prepare", sealed(1, 0, 0, 0), api.ErrMany},
		{"parts of yes", sealed(2, 0, 0, 2, 0, 2), api.ErrMany},
		{"parts of yes, one left out", sealed(2, 0, 0, 2, 0), api.ErrEnd},
		{"key behind the last", sealed(1, 0, 0, 2, 8, 2), api.ErrRange},
		{"key below 0", sealed(1, 0, 0, 2, 1, 2), api.ErrRange},
		{"too much", sealed(1, 0, 0, 2, 0, 130, 128, 128, 1), api.ErrRange},
		{"same place", sealed(1, 0, 0, 4, 2, 2, 2, 4), api.ErrMuch},
	} {
		got, err := Read(c.b)
		if err != c.want || !same(got, api.Msg{}) {
			t.Errorf("%s: Read(%v) is %v, %d, not %d", c.name, c.b, got, err, c.want)
		}
	}
}

func TestReadEdges(t *testing.T) {
	for _, c := range []struct {
		b    []byte
		want api.Msg
	}{
		{sealed(7, 254, 20, 4, 0), api.Msg{Kind: 7, Deed: 1343, House: 2}},
		{sealed(1, 0, 4, 8, 6, 2, 4, 4, 2, 6, 0, 128, 128, 128, 1),
			api.Msg{Kind: 1, House: 2, Parts: []api.Part{at(2, 3, 1), at(2, 2, 2), at(2, 1, 3), at(2, 0, api.MaxSum)}}},
	} {
		if got, err := Read(c.b); err != api.OK || !same(got, c.want) {
			t.Errorf("Read(%v) is %v, %d, not %v", c.b, got, err, c.want)
		}
	}
}

func TestOnlyRead(t *testing.T) {
	room := []byte{1, 2, 3, 77, 77, 77, 77, 77, 77}
	parts := []api.Part{at(0, 1, 5), at(0, 2, -5), at(9, 9, 9)}
	m := api.Msg{Kind: api.MsgPrepare, Parts: parts[:2]}
	b := Bytes(m)
	Sum(room[:3])
	Get(room[:3])
	Read(room[:3])
	Wrong(m)
	got, err := Read(append(b, 77)[:len(b)])
	if !bytes.Equal(room, []byte{1, 2, 3, 77, 77, 77, 77, 77, 77}) {
		t.Errorf("bytes that were handed in are %v now", room)
	}
	if !slices.Equal(parts, []api.Part{at(0, 1, 5), at(0, 2, -5), at(9, 9, 9)}) {
		t.Errorf("parts that were handed in are %v now", parts)
	}
	clear(b)
	clear(parts)
	if err != api.OK || !slices.Equal(got.Parts, []api.Part{at(0, 1, 5), at(0, 2, -5)}) {
		t.Errorf("what was read is %v, %d when the bytes have changed", got, err)
	}
}

func TestNumberLeavesWhatIsAhead(t *testing.T) {
	room := []byte{1, 2, 3, 77, 77, 77}
	got := Number(room[:3], 300)
	if !bytes.Equal(got, []byte{1, 2, 3, 216, 4}) || !bytes.Equal(room[:3], []byte{1, 2, 3}) {
		t.Errorf("behind [1 2 3] comes %v, and that is %v now", got, room[:3])
	}
}

func TestNoPanic(t *testing.T) {
	for _, n := range []int{0, 1, -1, 1 << 40, -1 << 40, math.MaxInt, math.MinInt} {
		Number(nil, n)
		Number(nil, -n)
		m := api.Msg{Kind: n, Deed: n, House: n, Parts: []api.Part{at(n, n, n)}}
		Wrong(m)
		Read(Bytes(m))
	}
	for a := range 256 {
		for b := range 256 {
			Get([]byte{byte(a), byte(b)})
			Read(sealed(byte(a), byte(b), 0, 2, byte(b), byte(a)))
			Read(sealed(1, 0, byte(a), byte(b)))
		}
	}
}

func FuzzRead(f *testing.F) {
	for _, m := range rightOnes() {
		b := Bytes(m)
		f.Add(b[:len(b)-2])
	}
	f.Fuzz(func(t *testing.T, body []byte) {
		b := sealed(body...)
		m, err := Read(b)
		if err != api.OK {
			if !same(m, api.Msg{}) {
				t.Errorf("beside error %d comes %v", err, m)
			}
			return
		}
		if Wrong(m) != api.OK || !bytes.Equal(Bytes(m), b) {
			t.Errorf("%v is read as %v, which is written as %v", b, m, Bytes(m))
		}
	})
}
