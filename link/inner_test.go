package link

import (
	"testing"

	"heddle/api"
	"heddle/sample"
)

// P19.3: behind MaxUnlinks there comes 1 again; what stands there with that number already stays.
func TestNumbersTurn(t *testing.T) {
	x, err := New("a@h", 1)
	p := sample.Pid("a@h", 1, 1, 0)
	if err != nil || x.Born(p) != nil {
		t.Fatal(err)
	}
	unlink := func(id uint32, want uint32) {
		t.Helper()
		q := sample.Pid("b@h", 1, id, 0)
		if _, err := x.Link(p, q); err != nil {
			t.Fatal(err)
		}
		effects, err := x.Unlink(p, q)
		if err != nil || len(effects) != 1 || effects[0].Sig.ID != want {
			t.Fatalf("Unlink: %+v, %v, want the number %d", effects, err, want)
		}
	}
	unlink(1, 1)
	unlink(2, 2)
	x.unlinks = api.MaxUnlinks - 2
	unlink(3, api.MaxUnlinks-1)
	unlink(4, api.MaxUnlinks)
	unlink(5, 1)
	unlink(6, 2)
	if n := x.Halves("b@h"); n != 6 {
		t.Errorf("%d unlinks are kept", n)
	}
	for id := uint32(1); id <= 6; id++ {
		ack := api.Sig{Kind: api.GUnlinkAck, ID: []uint32{1, 2, api.MaxUnlinks - 1, api.MaxUnlinks, 1, 2}[id-1], From: sample.Pid("b@h", 1, id, 0), To: p}
		if _, err := x.Take("b@h", ack, api.Term{}); err != nil || x.Halves("b@h") != 6-int(id) {
			t.Errorf("%d: %v, %d unlinks are kept", id, err, x.Halves("b@h"))
		}
	}
}

// What is confirmed, or has ended, is forgotten.
func TestForgets(t *testing.T) {
	x, err := New("a@h", 1)
	p, q := sample.Pid("a@h", 1, 1, 0), sample.Pid("b@h", 1, 7, 0)
	if err != nil || x.Born(p) != nil {
		t.Fatal(err)
	}
	it := x.find(p)
	for id := uint32(1); id <= 3; id++ {
		if _, err := x.Link(p, q); err != nil {
			t.Fatal(err)
		}
		if _, err := x.Unlink(p, q); err != nil {
			t.Fatal(err)
		}
		if _, err := x.Take("b@h", api.Sig{Kind: api.GUnlinkAck, ID: id, From: q, To: p}, api.Term{}); err != nil || len(it.unlinks) > 0 {
			t.Errorf("%v, unlinks %v", err, it.unlinks)
		}
	}
	if _, err := x.End(p, q); err != nil || len(x.living) > 0 || len(x.born) != 1 {
		t.Errorf("%v, living %v, born %v", err, x.living, x.born)
	}
}

// What is no fault is not wrapped.
func TestWrap(t *testing.T) {
	if err := wrap(nil); err != nil {
		t.Error(err)
	}
}
