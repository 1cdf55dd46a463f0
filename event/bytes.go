package event

import "cohesion/api"

// eventBytes is how many bytes each event takes.
const eventBytes = 10

// Encode returns events as bytes.
func Encode(l []api.Event) ([]byte, api.Errno) {
	if err := checkList(l); err != api.OK {
		return nil, err
	}
	b := make([]byte, 0, eventBytes*len(l))
	for _, e := range l {
		b = append(b,
			byte(e.Kind),
			byte(e.Time>>16), byte(e.Time>>8), byte(e.Time),
			byte(e.U), byte(e.V),
			byte(e.Weight>>8), byte(e.Weight),
			byte(e.Label),
			signByte(e))
	}
	return b, api.OK
}

// signByte returns the byte of an event that tells a negative sign from the one that its kind has otherwise.
func signByte(e api.Event) byte {
	if e.Sign == -1 {
		return 1
	}
	return 0
}

// Decode returns the events whose bytes these are.
func Decode(b []byte) ([]api.Event, api.Errno) {
	if len(b) > eventBytes*api.MaxEvents {
		return nil, api.ErrLimit
	}
	if len(b)%eventBytes != 0 {
		return nil, api.ErrForm
	}
	l := make([]api.Event, 0, len(b)/eventBytes)
	// The form is asked of all events before the first one is checked.
	for at := 0; at < len(b); at += eventBytes {
		e, ok := fromBytes([eventBytes]byte(b[at : at+eventBytes]))
		if !ok {
			return nil, api.ErrForm
		}
		l = append(l, e)
	}
	if err := checkAll(l); err != api.OK {
		return nil, err
	}
	return l, api.OK
}

// fromBytes returns the event, valid or not, whose bytes these are, and whether their last one may stand behind its kind.
func fromBytes(b [eventBytes]byte) (api.Event, bool) {
	sign, ok := signOf(int(b[0]), b[9])
	return api.Event{
		Kind:   int(b[0]),
		Time:   int(b[1])<<16 | int(b[2])<<8 | int(b[3]),
		U:      int(b[4]),
		V:      int(b[5]),
		Weight: int(b[6])<<8 | int(b[7]),
		Label:  int(b[8]),
		Sign:   sign,
	}, ok
}

// signOf returns the sign for which a byte stands in an event of a kind.
func signOf(kind int, b byte) (int, bool) {
	switch {
	case b == 0 && kind == api.EvSet:
		return 1, true
	case b == 0:
		return 0, true
	case b == 1 && kind == api.EvSet:
		return -1, true
	}
	return 0, false
}
