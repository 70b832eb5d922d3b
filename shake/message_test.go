package shake_test

import (
	"bytes"
	"encoding/binary"
	"errors"
	"math"
	"math/rand"
	"regexp"
	"slices"
	"strings"
	"testing"

	"heddle/api"
	"heddle/sample"
	"heddle/shake"
)

// noName is what lies under a fault of a name that is none.
var noName = api.Fault{Layer: "atom", Code: api.ErrName}

var (
	kinds      = []api.ShakeKind{api.HName, api.HStatus, api.HChallenge, api.HReply, api.HAck}
	noKinds    = []api.ShakeKind{math.MinInt, -1, 0, 6, 7, 256 + 1, 1<<32 + 2, math.MaxInt}
	statuses   = []string{"ok", "ok_simultaneous", "nok", "not_allowed", "alive"}
	noStatuses = []string{"", "o", "okay", "ok ", " ok", "OK", "Ok", "ok\x00", "ok_", "ok_simultaneou", "ok_simultaneous_", "okok", "n", "no", "nokk", "not", "not_allowe", "not_allowed\n", "not allowed", "aliv", "alive!", "true", "sok", "\xff", strings.Repeat("ok", 40000)}
	names      = []string{"n@h", "a@b", "A@B", "0@0", "_@_", "-@-", "n@h.example.org", "n-1_X@h-2.y_Z", "n@.", "n@...", strings.Repeat("n", 31) + "@" + strings.Repeat("h", 32), "n@" + strings.Repeat("h", 62), strings.Repeat("n", 62) + "@h"}
	noNames    = []string{"", "n", "@", "n@", "@h", "nh", "n@h@h", "n@@h", "n.m@h", "n@h!", "n @h", "n@h ", " n@h", "n@h\x00", "é@h", "n@é", "n@h\n", "\xff@h", strings.Repeat("n", 32) + "@" + strings.Repeat("h", 32), "n@" + strings.Repeat("h", 63), "n@" + strings.Repeat("h", 65533), strings.Repeat("n", 65535)}
)

// refused: err is a fault of layer shake with that number at that place, and under it lie those.
func refused(t *testing.T, what string, err error, at int, code api.Errno, under ...api.Fault) {
	t.Helper()
	_, outermost := err.(*api.Fault)
	chain := append([]api.Fault{{Layer: "shake", At: at, Code: code}}, under...)
	if !outermost || !sample.IsFault(err, chain...) || !errors.Is(err, code) {
		t.Errorf("%s: %v, want errno %d of layer shake at %d, %d under it", what, err, code, at, len(under))
	}
}

// same tells whether two messages are, nil and empty digests being the same.
func same(a, b api.Shake) bool {
	return a.Kind == b.Kind && a.Flags == b.Flags && a.Creation == b.Creation && a.Challenge == b.Challenge && a.Name == b.Name && a.Status == b.Status && bytes.Equal(a.Digest, b.Digest)
}

// laid: a message's bytes told once more, by the chapter's table and the library.
func laid(m api.Shake) string {
	be := binary.BigEndian
	switch m.Kind {
	case api.HName:
		b := be.AppendUint32(be.AppendUint64([]byte("N"), m.Flags), m.Creation)
		return string(be.AppendUint16(b, uint16(len(m.Name)))) + m.Name
	case api.HStatus:
		return "s" + m.Status
	case api.HChallenge:
		b := be.AppendUint32(be.AppendUint32(be.AppendUint64([]byte("N"), m.Flags), m.Challenge), m.Creation)
		return string(be.AppendUint16(b, uint16(len(m.Name)))) + m.Name
	case api.HReply:
		return string(be.AppendUint32([]byte("r"), m.Challenge)) + string(m.Digest)
	}
	return "a" + string(m.Digest)
}

var isName = regexp.MustCompile(`^[A-Za-z0-9_-]+@[A-Za-z0-9_.-]+$`)

// heads: how many bytes stand ahead of each kind's name; ends: where the kinds without one end.
var (
	heads = map[api.ShakeKind]int{api.HName: 15, api.HChallenge: 19}
	ends  = map[api.ShakeKind]int{api.HReply: 21, api.HAck: 17}
)

// found: the message of a kind that bytes are, told once more by the places of its fields; or the fault.
func found(k api.ShakeKind, b string) (api.Shake, *api.Fault) {
	letter := map[api.ShakeKind]string{api.HName: "N", api.HStatus: "s", api.HChallenge: "N", api.HReply: "r", api.HAck: "a"}[k]
	wrong := func(at int) (api.Shake, *api.Fault) {
		return api.Shake{}, &api.Fault{Layer: "shake", At: at, Code: api.ErrShake}
	}
	if !strings.HasPrefix(b, letter) {
		return wrong(0)
	}
	if k == api.HStatus {
		if !slices.Contains(statuses, b[1:]) {
			return wrong(1)
		}
		return api.Shake{Kind: k, Status: b[1:]}, nil
	}
	end, head := ends[k], heads[k]
	if head > 0 {
		end = head
		if len(b) >= head {
			end += int(b[head-2])*256 + int(b[head-1])
		}
	}
	switch {
	case len(b) < end:
		return wrong(len(b))
	case len(b) > end:
		return wrong(end)
	case head > 0 && (end-head > 64 || !isName.MatchString(b[head:])):
		under := noName
		return api.Shake{}, &api.Fault{Layer: "shake", At: head, Code: api.ErrName, Under: &under}
	}
	m, be := api.Shake{Kind: k}, binary.BigEndian
	switch k {
	case api.HName:
		m.Flags, m.Creation, m.Name = be.Uint64([]byte(b[1:])), be.Uint32([]byte(b[9:])), b[15:]
	case api.HChallenge:
		m.Flags, m.Challenge, m.Creation, m.Name = be.Uint64([]byte(b[1:])), be.Uint32([]byte(b[9:])), be.Uint32([]byte(b[13:])), b[19:]
	case api.HReply:
		m.Challenge, m.Digest = be.Uint32([]byte(b[1:])), []byte(b[5:])
	case api.HAck:
		m.Digest = []byte(b[1:])
	}
	return m, nil
}

// agrees: Read tells of bytes what was found; and of a message that they are, Write tells the bytes.
func agrees(t *testing.T, k api.ShakeKind, b string) {
	t.Helper()
	m, err := shake.Read(k, []byte(b))
	want, fault := found(k, b)
	if !same(m, want) {
		t.Fatalf("Read(%d, %.60q (%d)) = %+v, want %+v", k, b, len(b), m, want)
	}
	if fault == nil {
		back, werr := shake.Write(m)
		if err != nil || werr != nil || string(back) != b {
			t.Fatalf("Read(%d, %q): %v; Write of it: %q, %v", k, b, err, back, werr)
		}
		return
	}
	chain := []api.Fault{*fault}
	if fault.Under != nil {
		chain = append(chain, noName)
	}
	if !sample.IsFault(err, chain...) || !errors.Is(err, fault.Code) {
		t.Fatalf("Read(%d, %.60q (%d)): %v, want %v", k, b, len(b), err, fault)
	}
}

// wrote: Write tells of a message the bytes of the table, and Read of these the message.
func wrote(t *testing.T, m api.Shake) {
	t.Helper()
	b, err := shake.Write(m)
	if err != nil || string(b) != laid(m) {
		t.Fatalf("Write(%+v) = %q, %v, want %q", m, b, err, laid(m))
	}
	back, err := shake.Read(m.Kind, b)
	if err != nil || !same(back, m) {
		t.Fatalf("Read of Write of %+v = %+v, %v", m, back, err)
	}
}

// unwritten: Write refuses a message, and tells no bytes.
func unwritten(t *testing.T, m api.Shake, code api.Errno, under ...api.Fault) {
	t.Helper()
	b, err := shake.Write(m)
	refused(t, "Write", err, 0, code, under...)
	if len(b) != 0 {
		t.Errorf("Write(%+v) = %q beside %v", m, b, err)
	}
}

// right: a message of each kind, each byte of it unlike its neighbours.
func right(k api.ShakeKind) api.Shake {
	switch k {
	case api.HName:
		return api.Shake{Kind: k, Flags: 0x0102030405060708, Creation: 0x090a0b0c, Name: "n@h"}
	case api.HStatus:
		return api.Shake{Kind: k, Status: "ok"}
	case api.HChallenge:
		return api.Shake{Kind: k, Flags: 0x1112131415161718, Challenge: 0x191a1b1c, Creation: 0x1d1e1f20, Name: "m@h.x"}
	case api.HReply:
		return api.Shake{Kind: k, Challenge: 0x21222324, Digest: []byte("0123456789abcdef")}
	}
	return api.Shake{Kind: k, Digest: []byte("fedcba9876543210")}
}

// random: a message that may be.
func random(r *rand.Rand, k api.ShakeKind) api.Shake {
	m, digest := api.Shake{Kind: k}, make([]byte, 16)
	r.Read(digest)
	flags, creation, challenge := r.Uint64()>>r.Intn(64), r.Uint32()>>r.Intn(32), r.Uint32()>>r.Intn(32)
	name := names[r.Intn(len(names))]
	switch k {
	case api.HName:
		m.Flags, m.Creation, m.Name = flags, creation, name
	case api.HStatus:
		m.Status = statuses[r.Intn(len(statuses))]
	case api.HChallenge:
		m.Flags, m.Challenge, m.Creation, m.Name = flags, challenge, creation, name
	case api.HReply:
		m.Challenge, m.Digest = challenge, digest
	case api.HAck:
		m.Digest = digest
	}
	return m
}

// P8.1: a message of each kind, its bytes written out.
func TestWrite(t *testing.T) {
	for k, want := range map[api.ShakeKind]string{
		api.HName:      "N\x01\x02\x03\x04\x05\x06\x07\x08\x09\x0a\x0b\x0c\x00\x03n@h",
		api.HStatus:    "sok",
		api.HChallenge: "N\x11\x12\x13\x14\x15\x16\x17\x18\x19\x1a\x1b\x1c\x1d\x1e\x1f\x20\x00\x05m@h.x",
		api.HReply:     "r\x21\x22\x23\x240123456789abcdef",
		api.HAck:       "afedcba9876543210",
	} {
		b, err := shake.Write(right(k))
		if string(b) != want || err != nil {
			t.Errorf("kind %d: %q, %v, want %q", k, b, err, want)
		}
		wrote(t, right(k))
	}
}

// P8.1: the least and the greatest numbers, and every name and status; flags that no node needs or has play no part.
func TestWriteEdges(t *testing.T) {
	for _, k := range []api.ShakeKind{api.HName, api.HChallenge} {
		wrote(t, api.Shake{Kind: k, Name: "a@b"})
		for _, name := range names {
			m := right(k)
			m.Name = name
			wrote(t, m)
		}
		for _, flags := range []uint64{0, 1, api.FlagsNeeded, 1 << 63, math.MaxUint64} {
			for _, creation := range []uint32{0, 1, 255, 256, 1 << 31, math.MaxUint32} {
				m := right(k)
				m.Flags, m.Creation = flags, creation
				wrote(t, m)
			}
		}
	}
	for _, n := range []uint32{0, 1, 255, 256, 65535, 1 << 24, 1 << 31, math.MaxUint32} {
		wrote(t, api.Shake{Kind: api.HChallenge, Challenge: n, Name: "a@b"})
		wrote(t, api.Shake{Kind: api.HReply, Challenge: n, Digest: make([]byte, 16)})
	}
	for _, s := range statuses {
		wrote(t, api.Shake{Kind: api.HStatus, Status: s})
	}
	// An empty list is the same as none.
	wrote(t, api.Shake{Kind: api.HStatus, Status: "ok", Digest: []byte{}})
	wrote(t, api.Shake{Kind: api.HName, Name: "a@b", Digest: make([]byte, 0, 16)})
}

// P8.1: what is no kind, whatever stands beside it.
func TestWriteNoKind(t *testing.T) {
	for _, none := range noKinds {
		for _, k := range kinds {
			m := right(k)
			m.Kind = none
			unwritten(t, m, api.ErrArg)
		}
		unwritten(t, api.Shake{Kind: none}, api.ErrArg)
		unwritten(t, api.Shake{Kind: none, Name: "n", Status: "x", Digest: []byte("x")}, api.ErrArg)
	}
	unwritten(t, api.Shake{}, api.ErrArg)
}

// setters: a field, with values that some message may have and some that none may have.
var setters = map[string][]func(m *api.Shake){
	"flags":     {func(m *api.Shake) { m.Flags = 1 }, func(m *api.Shake) { m.Flags = 1 << 63 }},
	"creation":  {func(m *api.Shake) { m.Creation = 1 }, func(m *api.Shake) { m.Creation = 1 << 31 }},
	"challenge": {func(m *api.Shake) { m.Challenge = 1 }, func(m *api.Shake) { m.Challenge = 1 << 31 }},
	"name":      {func(m *api.Shake) { m.Name = "k@h" }, func(m *api.Shake) { m.Name = "x" }},
	"status":    {func(m *api.Shake) { m.Status = "nok" }, func(m *api.Shake) { m.Status = "x" }},
	"digest":    {func(m *api.Shake) { m.Digest = make([]byte, 16) }, func(m *api.Shake) { m.Digest = []byte{0} }},
}

// fields: those that a kind names.
var fields = map[api.ShakeKind][]string{
	api.HName:      {"flags", "creation", "name"},
	api.HStatus:    {"status"},
	api.HChallenge: {"flags", "challenge", "creation", "name"},
	api.HReply:     {"challenge", "digest"},
	api.HAck:       {"digest"},
}

// P8.1: each field that must be zero, alone and beside each other one, right and wrong.
func TestWriteFieldsThatMustBeZero(t *testing.T) {
	for _, k := range kinds {
		for one, ways := range setters {
			if slices.Contains(fields[k], one) {
				continue
			}
			for _, set := range ways {
				alone := right(k)
				set(&alone)
				unwritten(t, alone, api.ErrArg)
				for _, others := range setters {
					for _, other := range others {
						beside := right(k)
						set(&beside)
						other(&beside)
						set(&beside)
						unwritten(t, beside, api.ErrArg)
					}
				}
			}
		}
	}
}

// P8.1: statuses that are none.
func TestWriteNoStatus(t *testing.T) {
	for _, s := range noStatuses {
		unwritten(t, api.Shake{Kind: api.HStatus, Status: s}, api.ErrArg)
	}
}

// P8.1: digests of other lengths.
func TestWriteDigests(t *testing.T) {
	for _, k := range []api.ShakeKind{api.HReply, api.HAck} {
		for n := range 40 {
			m := right(k)
			m.Digest = bytes.Repeat([]byte{7}, n)
			if n == 16 {
				wrote(t, m)
			} else {
				unwritten(t, m, api.ErrArg)
			}
		}
		unwritten(t, api.Shake{Kind: k}, api.ErrArg)
	}
}

// P8.1: names that are none; a field that must be zero is told ahead of them.
func TestWriteNoName(t *testing.T) {
	for _, k := range []api.ShakeKind{api.HName, api.HChallenge} {
		for _, name := range append(noNames, strings.Repeat("n", 65536), strings.Repeat("n", 65536)+"a@b") {
			m := right(k)
			m.Name = name
			unwritten(t, m, api.ErrName, noName)
			m.Status = "ok"
			unwritten(t, m, api.ErrArg)
			m.Status, m.Digest = "", make([]byte, 16)
			unwritten(t, m, api.ErrArg)
		}
	}
	unwritten(t, api.Shake{Kind: api.HName, Challenge: 1, Name: "n"}, api.ErrArg)
}

// Rule 4: what Write tells is none of what it was given, nor of what it told.
func TestWriteIsNewMemory(t *testing.T) {
	for _, k := range kinds {
		m := right(k)
		first, _ := shake.Write(m)
		second, _ := shake.Write(m)
		for i := range first {
			first[i] = '#'
		}
		_ = append(first, "and more"...)
		if string(second) != laid(right(k)) || !same(m, right(k)) {
			t.Errorf("kind %d: %q, %+v", k, second, m)
		}
		for i := range m.Digest {
			m.Digest[i] = '#'
		}
		if string(second) != laid(right(k)) {
			t.Errorf("kind %d: bytes change with the message: %q", k, second)
		}
	}
}

// The chapter's example 2.
func TestReadExamples(t *testing.T) {
	for _, c := range []struct {
		k  api.ShakeKind
		b  string
		at int
	}{{api.HStatus, "sokay", 1}, {api.HAck, "a", 1}, {api.HName, "s", 0}} {
		m, err := shake.Read(c.k, []byte(c.b))
		refused(t, c.b, err, c.at, api.ErrShake)
		if !same(m, api.Shake{}) {
			t.Errorf("%q: %+v beside an error", c.b, m)
		}
	}
}

// P8.2: no kind, whatever the bytes are.
func TestReadNoKind(t *testing.T) {
	for _, none := range noKinds {
		for _, b := range []string{"", "x", "N", laid(right(api.HName)), laid(right(api.HStatus)), laid(right(api.HAck))} {
			m, err := shake.Read(none, []byte(b))
			refused(t, "Read", err, 0, api.ErrArg)
			if !same(m, api.Shake{}) {
				t.Errorf("kind %d: %+v beside an error", none, m)
			}
		}
	}
}

// P8.2: each message as each kind, cut at every length and with bytes behind it.
func TestReadCutAndLong(t *testing.T) {
	for _, k := range kinds {
		b := laid(right(k))
		for n := range len(b) + 1 {
			for _, as := range kinds {
				agrees(t, as, b[:n])
			}
			_, err := shake.Read(k, []byte(b[:n]))
			switch {
			case n == len(b):
				if err != nil {
					t.Errorf("kind %d: %v", k, err)
				}
			case k == api.HStatus && n > 0:
				refused(t, b[:n], err, 1, api.ErrShake)
			default:
				refused(t, b[:n], err, n, api.ErrShake)
			}
		}
		for _, more := range []string{"\x00", "x", "N", b} {
			agrees(t, k, b+more)
			_, err := shake.Read(k, []byte(b+more))
			at := len(b)
			if k == api.HStatus {
				at = 1
			}
			refused(t, b+more, err, at, api.ErrShake)
		}
		_, err := shake.Read(k, nil)
		refused(t, "no byte", err, 0, api.ErrShake)
	}
}

// P8.2: every first letter; another one is told ahead of all else.
func TestReadLetters(t *testing.T) {
	for _, k := range kinds {
		b := laid(right(k))
		for c := range 256 {
			letter := string([]byte{byte(c)})
			agrees(t, k, letter+b[1:])
			agrees(t, k, letter+b[1:]+"x")
			agrees(t, k, letter)
			if letter != b[:1] {
				for _, rest := range []string{"", b[1:], b[1:] + "x", b[1 : len(b)-1], "x"} {
					_, err := shake.Read(k, []byte(letter+rest))
					refused(t, letter+rest, err, 0, api.ErrShake)
				}
			}
		}
	}
}

// P8.2: all statuses, and what is none: among these beginnings of others.
func TestReadStatuses(t *testing.T) {
	for _, s := range statuses {
		m, err := shake.Read(api.HStatus, []byte("s"+s))
		if err != nil || !same(m, api.Shake{Kind: api.HStatus, Status: s}) {
			t.Errorf("%q: %+v, %v", s, m, err)
		}
		for n := range len(s) + 1 {
			agrees(t, api.HStatus, "s"+s[:n])
		}
		for c := range 256 {
			agrees(t, api.HStatus, "s"+s+string([]byte{byte(c)}))
		}
	}
	for _, s := range noStatuses {
		_, err := shake.Read(api.HStatus, []byte("s"+s))
		refused(t, s, err, 1, api.ErrShake)
	}
}

// P8.2: lengths of a name that tell more or less than there is, with bytes behind them and without.
func TestReadNameLengths(t *testing.T) {
	for k, head := range heads {
		for _, name := range []string{"", "n", "n@h", "no name", names[len(names)-1], strings.Repeat("n", 300)} {
			m := right(k)
			m.Name = ""
			ahead := laid(m)[:head-2]
			for n := range 400 {
				b := ahead + string([]byte{byte(n >> 8), byte(n)}) + name
				agrees(t, k, b)
				_, err := shake.Read(k, []byte(b))
				switch {
				case n > len(name):
					refused(t, "long", err, len(b), api.ErrShake)
				case n < len(name):
					refused(t, "short", err, head+n, api.ErrShake)
				}
			}
			for _, length := range []string{"\xff\xff", "\x80\x00", "\x01\x00", "\x00"} {
				agrees(t, k, ahead+length+name)
			}
		}
	}
}

// P8.2: names that are none, at the name's first byte; bytes that run out and bytes behind the message are told ahead of them.
func TestReadNoName(t *testing.T) {
	for k, head := range heads {
		for _, name := range noNames {
			m := right(k)
			m.Name = name
			b := laid(m)
			got, err := shake.Read(k, []byte(b))
			refused(t, name, err, head, api.ErrName, noName)
			if !same(got, api.Shake{}) {
				t.Errorf("%q: %+v beside an error", name, got)
			}
			_, err = shake.Read(k, []byte(b+"x"))
			refused(t, name+" and more", err, len(b), api.ErrShake)
			_, err = shake.Read(k, []byte(b[:len(b)-1]))
			refused(t, name+" and less", err, len(b)-1, api.ErrShake)
			agrees(t, k, b)
		}
		for _, name := range names {
			m := right(k)
			m.Name = name
			agrees(t, k, laid(m))
			agrees(t, k, laid(m)+"@")
		}
	}
}

// Rule 4: Read neither changes nor keeps its bytes, and what it tells is none of them.
func TestReadKeepsNothing(t *testing.T) {
	for _, k := range kinds {
		room := []byte("ahead" + laid(right(k)) + "behind")
		b := room[5 : len(room)-6]
		first, _ := shake.Read(k, b)
		second, _ := shake.Read(k, b)
		if string(room) != "ahead"+laid(right(k))+"behind" {
			t.Errorf("kind %d: bytes are changed: %q", k, room)
		}
		_ = append(first.Digest, "and more"...)
		for i := range first.Digest {
			first.Digest[i] = '#'
		}
		if !same(second, right(k)) || string(room) != "ahead"+laid(right(k))+"behind" {
			t.Errorf("kind %d: %+v, %q", k, second, room)
		}
		clear(room)
		if !same(second, right(k)) {
			t.Errorf("kind %d: a message changes with its bytes: %+v", k, second)
		}
	}
}

// P8.9: there and back, over many messages; and bytes of them with some turned, as all kinds.
func TestThereAndBack(t *testing.T) {
	r := rand.New(rand.NewSource(8))
	for range 4000 {
		for _, k := range kinds {
			m := random(r, k)
			wrote(t, m)
			b := []byte(laid(m))
			agrees(t, k, string(b))
			for range 3 {
				b[r.Intn(len(b))] = byte(r.Intn(256))
				for _, as := range kinds {
					agrees(t, as, string(b))
				}
			}
		}
	}
}

// FuzzRead: any bytes as any kind.
func FuzzRead(f *testing.F) {
	for _, k := range kinds {
		f.Add(int(k), []byte(laid(right(k))))
	}
	f.Fuzz(func(t *testing.T, n int, b []byte) {
		if n < 1 || n > len(kinds) {
			_, err := shake.Read(api.ShakeKind(n), b)
			refused(t, "Read", err, 0, api.ErrArg)
			return
		}
		agrees(t, api.ShakeKind(n), string(b))
	})
}
