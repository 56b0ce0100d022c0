package machine

import (
	"errors"

	"veneer/api"
	"veneer/fault"
	"veneer/op"
	"veneer/session"
)

// Apply: the next request.
func (m *Machine) Apply(e api.Entry) api.Reply {
	r, err := m.answer(e)
	if err != nil {
		r = api.Result{Code: fault.Code(err)}
	}
	return api.Reply{Client: e.Client, Number: e.Number, Result: r}
}

// answer: the result of the next request, or why it has none. ErrNil, ErrMany, ErrForgot, ErrArg.
func (m *Machine) answer(e api.Entry) (api.Result, error) {
	if err := m.rise(); err != nil {
		return api.Result{}, err
	}
	state, r := m.Known(e.Client, e.Number)
	err := settled(state)
	if errors.Is(err, api.ErrNone) {
		return m.do(e), nil
	}
	return r, err
}

// rise: one more request is counted. ErrNil, ErrMany.
func (m *Machine) rise() error {
	if m == nil {
		return fault.New("rise", "", api.ErrNil)
	}
	if m.at >= api.Greatest {
		return fault.New("rise", "", api.ErrMany)
	}
	m.at++
	return nil
}

// settled: what a request in a state came to; nil: it has its result. ErrNone (it is still to be done), ErrForgot, ErrArg.
func settled(state session.State) error {
	switch state {
	case session.Kept:
		return nil
	case session.New:
		return fault.New("settled", "", api.ErrNone)
	case session.Old: // a later request's reply came in the place of its own
		fallthrough
	case session.Forgot:
		return fault.New("settled", "", api.ErrForgot)
	}
	return fault.New("settled", "", api.ErrArg)
}

// do: a new request is done, and what came of it recorded.
func (m *Machine) do(e api.Entry) api.Result {
	r := m.perform(e.Op)
	reply, _ := op.Pack(r) // only an upper branch that was loaded with more than its quota has too many names: then no bytes are recorded
	m.table.Record(e.Client, e.Number, m.at, string(reply))
	return r
}

// perform: an operation is done.
func (m *Machine) perform(o api.Op) api.Result {
	if o.Kind == api.OpForget && op.Check(o) == api.OK {
		return m.forget(o.At)
	}
	r, _ := m.files.Do(o) // the result's Code tells the error, too
	return r
}

// forget: a client's reply goes; Size says whether there was one.
func (m *Machine) forget(client int) api.Result {
	if m.table.Forget(client) {
		return api.Result{Size: 1}
	}
	return api.Result{}
}
