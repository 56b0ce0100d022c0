package machine

import (
	"veneer/api"
	"veneer/blob"
	"veneer/fault"
	"veneer/session"
	"veneer/union"
	"veneer/upper"
	"veneer/wire"
)

// parts are what a machine's bytes tell.
type parts struct {
	at     int64
	branch *upper.Upper
	table  *session.Table
}

// State: its bytes.
func (m *Machine) State() []byte {
	if m == nil {
		return nil
	}
	out := &wire.Out{}
	out.Num(uint64(m.at))
	out.Text(string(m.files.Upper().Encode()))
	out.Text(string(m.table.Encode()))
	return out.Bytes()
}

// Load: the machine of a state. ErrNil, ErrMany, tree.Walk's, ErrForm.
func Load(s *blob.Store, lowers []api.Digest, state []byte) (*Machine, api.Errno) {
	p, wrong := read(state)
	if wrong != nil {
		p.branch, _ = upper.New(0, 0) // what is wrong with the layers is told first, and hangs on no upper branch
	}
	files, e := union.New(s, lowers, p.branch)
	if err := fault.All(fault.New("layers", "", e), wrong); err != nil {
		return nil, fault.Code(err)
	}
	return &Machine{at: p.at, files: files, table: p.table}, api.OK
}

// read: the parts of a machine's bytes. ErrForm.
func read(state []byte) (parts, error) {
	in := wire.Read(state)
	at := in.Num()
	branch, wrongBranch := upper.Decode([]byte(in.Text(len(state))))
	table, wrongTable := session.Decode([]byte(in.Text(len(state))))
	if !in.End() || at > api.Greatest {
		return parts{}, fault.New("read", "", api.ErrForm)
	}
	err := fault.All(fault.New("upper", "", wrongBranch), fault.New("session", "", wrongTable)) // each of them is ErrForm
	return parts{at: int64(at), branch: branch, table: table}, err
}
