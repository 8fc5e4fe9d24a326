package attr

import (
	"math"
	"strings"

	"herald/api"
	"herald/wire"
)

// long is the bit of Flags that says that the length has two bytes.
const long = 0x10

// Write answers what attributes are as raw ones, rising by Type.
func Write(a api.Attrs, four bool) ([]api.Raw, api.Errno) {
	if Check(a) != api.OK {
		return nil, api.ErrArg
	}
	var l []api.Raw
	for _, typ := range known {
		of, _ := rowOf(typ, four)
		if value, is := of.lay(&a); is {
			l = append(l, api.Raw{Flags: of.bits, Type: typ, Value: value})
		}
	}
	return l, api.OK
}

// Lay answers the bytes of raw attributes, one behind the other.
func Lay(l []api.Raw) (string, api.Errno) {
	var b strings.Builder
	for _, raw := range l {
		// Asked ahead of laying: a value may be far longer than there is room for.
		if b.Len()+headSize(raw)+len(raw.Value) > api.MaxBody {
			return "", api.ErrLong
		}
		flags, size := raw.Flags&^long, 1
		if isLong(raw) {
			flags, size = raw.Flags|long, 2
		}
		b.WriteString(put(uint64(flags), 1))
		b.WriteString(put(uint64(raw.Type), 1))
		b.WriteString(put(uint64(len(raw.Value)), size))
		b.WriteString(raw.Value)
	}
	return b.String(), api.OK
}

// isLong tells whether the length does not go into one byte.
func isLong(raw api.Raw) bool { return len(raw.Value) > math.MaxUint8 }

// headSize tells how many bytes stand ahead of the value.
func headSize(raw api.Raw) int {
	if isLong(raw) {
		return 4
	}
	return 3
}

// Split answers the raw attributes of bytes; false, if the bytes are not just these.
func Split(s string) ([]api.Raw, bool) {
	var l []api.Raw
	next := inBytes(wire.New(s))
	for {
		raw, err := next()
		switch err {
		case api.ErrNone:
			return l, true
		case api.ErrForm:
			return nil, false
		}
		l = append(l, raw)
	}
}

// inBytes tells raw attributes, one a call, until ErrNone tells that there are no more; ErrForm, if one is cut short.
func inBytes(r *wire.Reader) func() (api.Raw, api.Errno) {
	return func() (api.Raw, api.Errno) {
		if r.Left() == 0 {
			return api.Raw{}, api.ErrNone
		}
		flags, _ := r.Number(1)
		typ, _ := r.Number(1)
		size := 1
		if flags&long != 0 {
			size = 2
		}
		n, counted := r.Number(size)
		value, whole := r.Take(int(n))
		if !counted || !whole {
			return api.Raw{}, api.ErrForm
		}
		return api.Raw{Flags: uint8(flags), Type: uint8(typ), Value: value}, api.OK
	}
}
