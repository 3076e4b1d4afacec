package codec_test

import (
	"fmt"
	"math/rand/v2"
	"testing"

	"touchstone/codec"
)

// item is a number or a text, and the call that writes or reads it.
type item struct {
	call byte
	u    uint64
	i    int
	t    string
}

func (x item) write(w *codec.Writer) {
	switch x.call {
	case 'U':
		w.U(x.u)
	case 'I':
		w.I(x.i)
	case 'T':
		w.T(x.t)
	}
}

func read(r *codec.Reader, call byte) item {
	x := item{call: call}
	switch call {
	case 'U':
		x.u = r.U()
	case 'I':
		x.i = r.I()
	case 'T':
		x.t = r.T()
	}
	return x
}

func someItems(d *rand.Rand) []item {
	var l []item
	for range d.IntN(12) {
		switch d.IntN(3) {
		case 0:
			l = append(l, item{call: 'U', u: someNumber(d)})
		case 1:
			l = append(l, item{call: 'I', i: int(someNumber(d))})
		default:
			l = append(l, item{call: 'T', t: someText(d, 1+d.IntN(2)*200)})
		}
	}
	return l
}

// P2.5: what a Writer took a Reader gives, in order, and is done.
func TestBack(t *testing.T) {
	d := rand.New(rand.NewPCG(2, 7))
	for range 5000 {
		l := someItems(d)
		w := &codec.Writer{}
		for _, x := range l {
			x.write(w)
		}
		r := codec.NewReader(w.String())
		for i, x := range l {
			if r.Done() {
				t.Fatalf("%v: done ahead of %d", l, i)
			}
			if got := read(r, x.call); got != x {
				t.Fatalf("%v: %v, not %v", l, got, x)
			}
		}
		wantState(t, r, false, true)
	}
}

// P2.5: so it is with lists that are handed in whole.
func TestBackLists(t *testing.T) {
	d := rand.New(rand.NewPCG(2, 8))
	for range 500 {
		var u []uint64
		var l []int
		var s []string
		for range d.IntN(20) {
			u, l, s = append(u, someNumber(d)), append(l, int(someNumber(d))), append(s, someText(d, 150))
		}
		w := &codec.Writer{}
		w.T(s...)
		w.I(l...)
		w.U(u...)
		r := codec.NewReader(w.String())
		for _, x := range s {
			wantT(t, r, x)
		}
		for _, x := range l {
			wantI(t, r, x)
		}
		for _, x := range u {
			wantU(t, r, x)
		}
		wantState(t, r, false, true)
	}
}

// wantOneWay reads a text by some calls. If they come to its end, what they read must be written as the same text.
func wantOneWay(t *testing.T, s, calls string) bool {
	t.Helper()
	r, w := codec.NewReader(s), &codec.Writer{}
	for i := range len(calls) {
		read(r, calls[i]).write(w)
	}
	if r.Done() && w.String() != s {
		t.Fatalf("% X, read by %s, is the same as % X", s, calls, w.String())
	}
	return r.Done()
}

// P2.6: among all texts of up to four of these bytes no two are read as the same, by the same calls, to their ends.
func TestOneWay(t *testing.T) {
	const bytes = "\x00\x01\x02\x03\x7F\x80\x81\xFF"
	texts := []string{""}
	for i := 0; len(texts[i]) < 4; i++ {
		for k := range len(bytes) {
			texts = append(texts, texts[i]+bytes[k:k+1])
		}
	}
	calls := []string{""}
	for i := 0; len(calls[i]) < 4; i++ {
		calls = append(calls, calls[i]+"U", calls[i]+"I", calls[i]+"T")
	}
	for _, call := range calls {
		seen := map[string]string{}
		for _, s := range texts {
			if !wantOneWay(t, s, call) {
				continue
			}
			r, told := codec.NewReader(s), ""
			for i := range len(call) {
				told += fmt.Sprintf("%+v", read(r, call[i]))
			}
			if other, there := seen[told]; there {
				t.Fatalf("% X and % X are both read by %s as %s", other, s, call, told)
			}
			seen[told] = s
		}
	}
}

// P2.6, P1: so it is with any bytes; no call panics.
func TestOneWayAny(t *testing.T) {
	d := rand.New(rand.NewPCG(2, 9))
	done := 0
	for range 50000 {
		b := []byte(someText(d, 12))
		for i := range b {
			if d.IntN(2) == 0 {
				b[i] = "\x00\x01\x02\x05\x7F\x80\xFF"[d.IntN(7)]
			}
		}
		calls := ""
		for range d.IntN(8) {
			calls += "UIT"[d.IntN(3):][:1]
		}
		if wantOneWay(t, string(b), calls) {
			done++
		}
	}
	if done < 100 {
		t.Fatalf("only %d texts were read to their ends", done)
	}
}
