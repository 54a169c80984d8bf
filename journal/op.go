package journal

import (
	"weir/api"
	"weir/engine"
	"weir/wire"
)

// The first byte of an op's bytes tells which one it is.
const (
	opRegister = 1 + iota
	opDrop
	opPoints
	opDelete
	opExpire
)

// op is a call that changes an engine, which can be written down.
type op interface {
	do(e *engine.Engine) (int, error)
	write(w *wire.Writer)
}

type registering struct{ text string }

func (o registering) do(e *engine.Engine) (int, error) { return e.Register(o.text) }

func (o registering) write(w *wire.Writer) {
	w.Byte(opRegister)
	w.Text(o.text)
}

type dropping struct{ id int }

func (o dropping) do(e *engine.Engine) (int, error) { return 0, e.Drop(o.id) }

func (o dropping) write(w *wire.Writer) {
	w.Byte(opDrop)
	w.Int(int64(o.id))
}

type bringing struct{ points []api.Point }

func (o bringing) do(e *engine.Engine) (int, error) { return e.Points(o.points) }

func (o bringing) write(w *wire.Writer) {
	w.Byte(opPoints)
	w.Uint(uint64(len(o.points)))
	for _, p := range o.points {
		writePoint(w, p)
	}
}

type deleting struct {
	measure, cond string
	from, to      int64
}

func (o deleting) do(e *engine.Engine) (int, error) {
	return e.Delete(o.measure, o.cond, o.from, o.to)
}

func (o deleting) write(w *wire.Writer) {
	w.Byte(opDelete)
	w.Text(o.measure)
	w.Text(o.cond)
	w.Int(o.from)
	w.Int(o.to)
}

type expiring struct {
	measure string
	time    int64
}

func (o expiring) do(e *engine.Engine) (int, error) { return e.Expire(o.measure, o.time) }

func (o expiring) write(w *wire.Writer) {
	w.Byte(opExpire)
	w.Text(o.measure)
	w.Int(o.time)
}

// written are an op's bytes.
func written(o op) []byte {
	var w wire.Writer
	o.write(&w)
	return w.Bytes()
}

func writePoint(w *wire.Writer, p api.Point) {
	w.Text(p.Measure)
	w.Uint(uint64(len(p.Tags)))
	for _, tag := range p.Tags {
		w.Text(tag.Key)
		w.Text(tag.Value)
	}
	w.Uint(uint64(len(p.Fields)))
	for _, f := range p.Fields {
		w.Text(f.Key)
		w.Int(f.N)
	}
	w.Int(p.Time)
}

// readOp is the op whose bytes these are, if there is one.
func readOp(b []byte) (op, bool) {
	r := opReader{wire.NewReader(b)}
	o := r.op()
	return o, o != nil && r.Done() == nil
}

// opReader reads the parts of ops, none of which says more than a frame has room for.
type opReader struct{ *wire.Reader }

// op reads one; nil: none begins so.
func (r opReader) op() op {
	switch r.Byte() {
	case opRegister:
		return registering{r.text()}
	case opDrop:
		return dropping{int(r.Int())}
	case opPoints:
		return bringing{several(r, r.point)}
	case opDelete:
		return deleting{measure: r.text(), cond: r.text(), from: r.Int(), to: r.Int()}
	case opExpire:
		return expiring{measure: r.text(), time: r.Int()}
	}
	return nil
}

func (r opReader) text() string { return r.Text(api.MaxFrame) }

func (r opReader) point() api.Point {
	return api.Point{Measure: r.text(), Tags: several(r, r.tag), Fields: several(r, r.field), Time: r.Int()}
}

func (r opReader) tag() api.Tag { return api.Tag{Key: r.text(), Value: r.text()} }

func (r opReader) field() api.Field { return api.Field{Key: r.text(), N: r.Int()} }

// several reads how many things there are, and these. There may be said to be very many; the bytes have their end all the same.
func several[T any](r opReader, one func() T) []T {
	var l []T
	for left := r.Uint(api.MaxFrame); left > 0 && r.Fault() == nil; left-- {
		l = append(l, one())
	}
	return l
}
