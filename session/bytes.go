package session

import (
	"bytes"

	"veneer/api"
	"veneer/wire"
)

// Encode: its bytes.
func (t *Table) Encode() []byte {
	if t == nil {
		return nil
	}
	list := t.List()
	out := &wire.Out{}
	out.Num(uint64(t.room))
	out.Num(uint64(len(list)))
	for _, seat := range list {
		out.Num(uint64(seat.Client))
		out.Num(uint64(seat.Number))
		out.Int(seat.At)
		out.Flag(seat.Kept)
		out.Text(seat.Reply)
	}
	return out.Bytes()
}

// Decode: the table that bytes mean. ErrForm.
func Decode(b []byte) (*Table, api.Errno) {
	t, e := read(wire.Read(b))
	if e != api.OK || !bytes.Equal(t.Encode(), b) { // other bytes may be read, too: in another order, a client twice, replies that there is no room for
		return nil, api.ErrForm
	}
	return t, api.OK
}

// read: the table of bytes in whatever form. Make's and Record's errors.
func read(in *wire.In) (*Table, api.Errno) {
	t, e := Make(int(number(in, api.MaxReply)))
	if e != api.OK {
		return nil, e
	}
	for range number(in, api.MaxClients) {
		seat := readSeat(in)
		if e := t.Record(seat.Client, seat.Number, seat.At, seat.Reply); e != api.OK {
			return nil, e
		}
		if !seat.Kept {
			t.Forget(seat.Client)
		}
	}
	return t, api.OK
}

// readSeat: a seat, right or not. Behind the end of the bytes its client is none.
func readSeat(in *wire.In) api.Seat {
	return api.Seat{
		Client: int(number(in, api.MaxClients)),
		Number: number(in, api.Greatest),
		At:     in.Int(),
		Kept:   in.Flag(),
		Reply:  in.Text(api.MaxReply),
	}
}

// number: a number. One that is above the most is told as the most and one: wrong all the same, and so many are soon gone through.
func number(in *wire.In, most uint64) int64 { return int64(min(in.Num(), most+1)) }
