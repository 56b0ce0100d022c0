package fault

// inside: what is in an error, which is nothing in a number.
func inside(err error) []error {
	switch x := err.(type) {
	case *Fault:
		if x != nil && x.Err != nil {
			return []error{x.Err}
		}
	case *List:
		if x != nil {
			return x.errs
		}
	}
	return nil
}

// faults: the Faults on the way to an error's number, in order.
func faults(err error) []*Fault {
	var on []*Fault
	for in := []error{err}; len(in) > 0; in = inside(in[0]) {
		if f, ok := in[0].(*Fault); ok && f != nil {
			on = append(on, f)
		}
	}
	return on
}

// ends: the errors within an error that have nothing in them. Each part is opened once: parts that stand in others twice, and those twice in others, would else take ages.
func ends(err error) []error {
	var found []error
	opened := map[error]struct{}{}
	left := []error{err}
	for len(left) > 0 {
		last := len(left) - 1
		at := left[last]
		left = left[:last]
		in := inside(at)
		if len(in) == 0 {
			found = append(found, at)
			continue
		}
		if _, ok := opened[at]; !ok {
			opened[at] = struct{}{}
			left = append(left, in...)
		}
	}
	return found
}
