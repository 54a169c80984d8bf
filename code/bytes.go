package code

import (
	"weir/api"
	"weir/fault"
	"weir/wire"
)

// byteWriter writes a program as bytes.
type byteWriter struct{ wire.Writer }

func (w *byteWriter) begin(string) {}

func (w *byteWriter) end() {}

func (w *byteWriter) text(s string) string {
	w.Text(s)
	return s
}

func (w *byteWriter) number(n int64) int64 {
	w.Int(n)
	return n
}

func (w *byteWriter) function(f api.Func) api.Func {
	w.Byte(byte(f))
	return f
}

func (w *byteWriter) code(c api.Code) api.Code {
	w.Byte(byte(c))
	return c
}

func (w *byteWriter) many(_ string, n int) func(int) bool {
	w.Uint(uint64(n))
	return below(n)
}

// below tells of each number whether it is below n.
func below(n int) func(int) bool { return func(i int) bool { return i < n } }

// byteReader reads a program from bytes.
type byteReader struct{ *wire.Reader }

func (r byteReader) begin(string) {}

func (r byteReader) end() {}

func (r byteReader) text(string) string { return r.Text(api.MaxCode) }

func (r byteReader) number(int64) int64 { return r.Int() }

func (r byteReader) function(api.Func) api.Func { return api.Func(r.Byte()) }

func (r byteReader) code(api.Code) api.Code {
	at := r.At()
	c := api.Code(r.Byte())
	if Name(c) == "" {
		r.Fail(fault.At(at, api.ErrCode))
	}
	return c
}

// many has no more behind a fault: how many were told plays no part then.
func (r byteReader) many(string, int) func(int) bool {
	n := int(r.Uint(api.MaxCode))
	return func(i int) bool { return i < n && r.Fault() == nil }
}
