package codec

const chunkSize = 256

// Writer writes; a zero one has nothing. What waits is an array, and a chunk is never changed, so that a copied Writer goes on by itself.
type Writer struct {
	last    *chunk
	chunks  int
	waiting [chunkSize]byte
	waits   int // always less than a chunk
	bad     bool
}

// chunk is bytes that were written, behind those before it.
type chunk struct {
	before *chunk
	bytes  [chunkSize]byte
}

// Num writes a number from 0 to 2^31 - 1; any other makes the Writer bad.
func (w *Writer) Num(n int) *Writer {
	if n < 0 || n > maxNum {
		return w.spoil()
	}
	return w.add(leastFirst(uint64(n), numSize))
}

// Word writes a great one.
func (w *Writer) Word(n uint64) *Writer {
	return w.add(leastFirst(n, wordSize))
}

// Bytes writes how many there are, and them.
func (w *Writer) Bytes(b []byte) *Writer {
	return w.Num(len(b)).add(b)
}

// Text writes how many bytes it has, and them.
func (w *Writer) Text(s string) *Writer {
	return w.Num(len(s)).add([]byte(s))
}

// Done is all that was written; the Writer may go on.
func (w *Writer) Done() ([]byte, bool) {
	if w == nil || w.bad {
		return nil, false
	}
	end := w.chunks * chunkSize
	out := make([]byte, end+w.waits)
	copy(out[end:], w.waiting[:w.waits])
	for c := w.last; c != nil; c = c.before {
		end -= chunkSize
		copy(out[end:], c.bytes[:])
	}
	return out, true
}

func (w *Writer) add(b []byte) *Writer {
	if w == nil || w.bad {
		return w
	}
	for len(b) > 0 {
		n := copy(w.waiting[w.waits:], b)
		w.waits += n
		b = b[n:]
		if w.waits == chunkSize {
			w.keepChunk()
		}
	}
	return w
}

func (w *Writer) keepChunk() {
	w.last = &chunk{before: w.last, bytes: w.waiting}
	w.chunks++
	w.waiting = [chunkSize]byte{} // what went into the chunk is not kept twice
	w.waits = 0
}

// spoil lets go of all that was written: nothing will tell it any more.
func (w *Writer) spoil() *Writer {
	if w != nil {
		*w = Writer{bad: true}
	}
	return w
}
