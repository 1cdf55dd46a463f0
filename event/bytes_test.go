package event_test

import (
	"bytes"
	"encoding/binary"
	"slices"
	"testing"

	"cohesion/api"
	"cohesion/event"
)

// bytesOf are the bytes of a valid event by their definition, without the package under test.
func bytesOf(e api.Event) []byte {
	b := []byte{byte(e.Kind)}
	b = append(b, binary.BigEndian.AppendUint32(nil, uint32(e.Time))[1:]...)
	b = append(b, byte(e.U), byte(e.V))
	b = binary.BigEndian.AppendUint16(b, uint16(e.Weight))
	return append(b, byte(e.Label), map[int]byte{-1: 1, 0: 0, 1: 0}[e.Sign])
}

// bytesOfAll are the bytes of a list of valid events.
func bytesOfAll(l []api.Event) []byte {
	var b []byte
	for _, e := range l {
		b = append(b, bytesOf(e)...)
	}
	return b
}

func checkEncode(t *testing.T, l []api.Event, want []byte, wantedError api.Errno) {
	t.Helper()
	if got, e := event.Encode(l); !bytes.Equal(got, want) || e != wantedError {
		t.Errorf("Encode of %d events, %+v, = %v, %d, want %v, %d", len(l), l[:min(len(l), 9)], got, e, want, wantedError)
	}
}

func checkDecode(t *testing.T, b []byte, want []api.Event, wantedError api.Errno) {
	t.Helper()
	if got, e := event.Decode(b); !slices.Equal(got, want) || e != wantedError {
		t.Errorf("Decode of %d bytes, %v, = %+v, %d, want %+v, %d", len(b), b[:min(len(b), 90)], got, e, want, wantedError)
	}
}

func TestP4_2EncodeAndDecodeOfExamples(t *testing.T) {
	for _, c := range []struct {
		e    api.Event
		want []byte
	}{
		{set(5, 0, 3, 10, 2, -1), []byte{1, 0, 0, 5, 0, 3, 0, 10, 2, 1}},
		{set(0, 2, 1, 1000, 15, 1), []byte{1, 0, 0, 0, 2, 1, 3, 232, 15, 0}},
		{set(1<<20, 63, 62, 255, 0, 1), []byte{1, 16, 0, 0, 63, 62, 0, 255, 0, 0}},
		{set(66051, 62, 63, 256, 1, -1), []byte{1, 1, 2, 3, 62, 63, 1, 0, 1, 1}},
		{cut(70000, 63, 1), []byte{2, 1, 17, 112, 63, 1, 0, 0, 0, 0}},
		{cut(255, 0, 1), []byte{2, 0, 0, 255, 0, 1, 0, 0, 0, 0}},
		{cut(256, 1, 0), []byte{2, 0, 1, 0, 1, 0, 0, 0, 0, 0}},
		{leave(1<<20, 7), []byte{3, 16, 0, 0, 7, 0, 0, 0, 0, 0}},
		{leave(0, 0), []byte{3, 0, 0, 0, 0, 0, 0, 0, 0, 0}},
	} {
		checkEncode(t, []api.Event{c.e}, c.want, api.OK)
		checkDecode(t, c.want, []api.Event{c.e}, api.OK)
	}
	checkEncode(t, nil, nil, api.OK)
	checkDecode(t, nil, nil, api.OK)
}

func TestP4_2EncodeAndDecodeOfAllValidFields(t *testing.T) {
	all := validEvents()
	for _, e := range all {
		checkEncode(t, []api.Event{e}, bytesOf(e), api.OK)
		checkDecode(t, bytesOf(e), []api.Event{e}, api.OK)
	}
	checkEncode(t, all, bytesOfAll(all), api.OK)
	checkDecode(t, bytesOfAll(all), all, api.OK)
}

func TestP4_2EncodeReturnsTheFirstErrorOfAList(t *testing.T) {
	for _, c := range invalidLists() {
		checkEncode(t, c.l, nil, c.want)
	}
	eachChecked(func(c checked) {
		if c.want != api.OK {
			checkEncode(t, []api.Event{cut(0, 0, 1), c.e}, nil, c.want)
		}
	})
}

func TestP4_2EncodeOfManyEvents(t *testing.T) {
	most := slices.Repeat(few(), api.MaxEvents)[:65536]
	checkEncode(t, most, bytesOfAll(most), api.OK)
	checkEncode(t, slices.Concat(most, most[:1]), nil, api.ErrLimit)
	checkEncode(t, slices.Concat(most, most), nil, api.ErrLimit)
	checkEncode(t, append([]api.Event{{}}, most...), nil, api.ErrLimit)
	checkEncode(t, make([]api.Event, api.MaxEvents+1), nil, api.ErrLimit)
	checkEncode(t, make([]api.Event, api.MaxEvents), nil, api.ErrKind)
	checkEncode(t, append(slices.Clone(most[1:]), leave(-1, 0)), nil, api.ErrTime)
}

// decoded is Decode by its definition, but for its limit: first the form of all events, then the errors of the events.
func decoded(b []byte) ([]api.Event, api.Errno) {
	if len(b)%10 != 0 {
		return nil, api.ErrForm
	}
	var l []api.Event
	for ten := range slices.Chunk(b, 10) {
		sign := 0
		switch {
		case ten[9] > 1, ten[9] == 1 && ten[0] != api.EvSet:
			return nil, api.ErrForm
		case ten[0] == api.EvSet:
			sign = 1 - 2*int(ten[9])
		}
		time := int(ten[1])*65536 + int(ten[2])*256 + int(ten[3])
		l = append(l, api.Event{Kind: int(ten[0]), Time: time, U: int(ten[4]), V: int(ten[5]), Weight: int(ten[6])*256 + int(ten[7]), Label: int(ten[8]), Sign: sign})
	}
	for _, e := range l {
		if err := event.Check(e); err != api.OK {
			return nil, err
		}
	}
	return l, api.OK
}

func TestP4_2DecodeWhereOneByteIsAnother(t *testing.T) {
	for at := range bytesOfAll(few()) {
		for by := range 256 {
			b := bytesOfAll(few())
			b[at] = byte(by)
			want, e := decoded(b)
			checkDecode(t, b, want, e)
		}
	}
}

func TestP4_2DecodeOfAllKindsWithAllLastBytes(t *testing.T) {
	for kind := range 256 {
		for last := range 256 {
			b := []byte{byte(kind), 0, 0, 0, 1, 0, 0, 0, 0, byte(last)}
			want, e := decoded(b)
			checkDecode(t, b, want, e)
			b[7] = 1
			want, e = decoded(b)
			checkDecode(t, b, want, e)
		}
	}
}

func TestP4_2DecodeReturnsItsErrorsInOrder(t *testing.T) {
	good := []byte{2, 0, 0, 0, 0, 1, 0, 0, 0, 0}
	noKind, noTime, noNode, noRange := []byte{4, 255, 0, 0, 1, 1, 0, 0, 0, 0}, []byte{2, 16, 0, 1, 1, 1, 0, 0, 0, 0}, []byte{3, 0, 0, 0, 1, 1, 1, 0, 0, 0}, []byte{1, 0, 0, 0, 0, 1, 0, 0, 0, 1}
	noSign, signOfCut, signOfLeave, signOfNothing := []byte{1, 0, 0, 0, 0, 1, 0, 1, 0, 2}, []byte{2, 0, 0, 0, 0, 1, 0, 0, 0, 1}, []byte{3, 0, 0, 0, 0, 0, 0, 0, 0, 1}, []byte{0, 0, 0, 0, 0, 0, 0, 0, 0, 1}
	wrong := [][]byte{noKind, noTime, noNode, noRange}
	errors := []api.Errno{api.ErrKind, api.ErrTime, api.ErrNode, api.ErrRange}
	for i, x := range wrong {
		for _, y := range wrong {
			checkDecode(t, slices.Concat(good, x, y), nil, errors[i])
			checkDecode(t, slices.Concat(x, good, y, good), nil, errors[i])
		}
		for _, y := range [][]byte{noSign, signOfCut, signOfLeave, signOfNothing, {2}, good[:9], good[1:]} {
			checkDecode(t, y, nil, api.ErrForm)
			checkDecode(t, slices.Concat(good, y), nil, api.ErrForm)
			checkDecode(t, slices.Concat(x, good, y), nil, api.ErrForm)
			checkDecode(t, slices.Concat(y, good, x), nil, api.ErrForm)
		}
	}
	checkDecode(t, slices.Concat(good, []byte{1, 0, 0, 0, 0, 1, 0, 1, 0, 1}), []api.Event{cut(0, 0, 1), set(0, 0, 1, 1, 0, -1)}, api.OK)
}

func TestP4_2DecodeOfAllLengths(t *testing.T) {
	b := bytesOfAll(few())
	for length := range len(b) + 1 {
		want, wantedError := few()[:length/10], api.OK
		if length%10 != 0 {
			want, wantedError = nil, api.ErrForm
		}
		checkDecode(t, b[:length], want, wantedError)
	}
}

func TestP4_2DecodeOfManyBytes(t *testing.T) {
	most := slices.Repeat(few(), api.MaxEvents)[:65536]
	b := bytesOfAll(most)
	checkDecode(t, b, most, api.OK)
	checkDecode(t, b[:len(b)-1], nil, api.ErrForm)
	checkDecode(t, slices.Concat(b, b[:10]), nil, api.ErrLimit)
	for _, more := range [][]byte{{2}, b[:10], make([]byte, 10), bytes.Repeat([]byte{7}, 10), b} {
		checkDecode(t, slices.Concat(b, more), nil, api.ErrLimit)
		checkDecode(t, slices.Concat(more, b), nil, api.ErrLimit)
	}
	checkDecode(t, make([]byte, 655360), nil, api.ErrKind)
	b[655359], b[0] = 2, 9
	checkDecode(t, b, nil, api.ErrForm)
}
