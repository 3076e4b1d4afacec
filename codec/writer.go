package codec

// Writer writes. Its pieces are never written over, so that a copy of a Writer goes on by itself.
type Writer struct{ last *piece }

// piece is what one call wrote; end is how many bytes that makes, with all pieces ahead.
type piece struct {
	ahead *piece
	bytes []byte
	end   int
}

func (w *Writer) add(b []byte) {
	if w == nil {
		return
	}
	end := len(b)
	if w.last != nil {
		end += w.last.end
	}
	w.last = &piece{ahead: w.last, bytes: b, end: end}
}

// U writes numbers.
func (w *Writer) U(l ...uint64) {
	var b []byte
	for _, x := range l {
		b = addNumber(b, x)
	}
	w.add(b)
}

// I writes numbers that may be below 0.
func (w *Writer) I(l ...int) {
	var b []byte
	for _, n := range l {
		b = addNumber(b, Zig(int64(n)))
	}
	w.add(b)
}

// T writes texts.
func (w *Writer) T(l ...string) {
	var b []byte
	for _, s := range l {
		b = addNumber(b, uint64(len(s)))
		b = append(b, s...)
	}
	w.add(b)
}

// String is all bytes.
func (w *Writer) String() string {
	if w == nil || w.last == nil {
		return ""
	}
	out := make([]byte, w.last.end)
	for p := w.last; p != nil; p = p.ahead {
		copy(out[p.end-len(p.bytes):], p.bytes)
	}
	return string(out)
}
