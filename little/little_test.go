package little

import (
	"encoding/binary"
	"encoding/hex"
	"math"
	"strings"
	"testing"

	"solstice/api"
)

// wrongWidths are widths that no number has.
var wrongWidths = []int{0, -1, 9, 64, math.MinInt, math.MaxInt}

// numbers are numbers of all sizes, and at the edges of what bytes can tell.
func numbers() []uint64 {
	list := []uint64{0, 1, 0x0102030405060708, 0xfedcba9876543210, 0x8080808080808080, 0x7f7f7f7f7f7f7f7f, math.MaxUint64}
	for i := range 64 {
		n := uint64(1) << i
		list = append(list, n, n-1, n+1, -n)
	}
	return list
}

// allBytes has each byte once.
func allBytes() string {
	var b []byte
	for i := range 256 {
		b = append(b, byte(i))
	}
	return string(b)
}

// Promise 3.1: Put, Raw and Out.
func TestWriter(t *testing.T) {
	var w Writer
	if got := w.Out(); got != "" {
		t.Errorf("a zero writer has %q", got)
	}
	w.Put(2, 0x0102)
	w.Raw("ab\x00")
	w.Put(1, 0x1ff)
	w.Raw("")
	w.Put(8, 0x0102030405060708)
	w.Put(3, math.MaxUint64-1)
	const want = "\x02\x01ab\x00\xff\x08\x07\x06\x05\x04\x03\x02\x01\xfe\xff\xff"
	if got := w.Out(); got != want {
		t.Errorf("Out is %q", got)
	}
	if got := w.Out(); got != want {
		t.Errorf("Out, once more, is %q", got)
	}
}

// Promise 3.1: Put of each width, held against the library.
func TestPutWidths(t *testing.T) {
	for _, n := range numbers() {
		full := string(binary.LittleEndian.AppendUint64(nil, n))
		for width := 1; width <= 8; width++ {
			var w Writer
			w.Put(width, n)
			if got := w.Out(); got != full[:width] {
				t.Errorf("Put(%d, %#x) writes %x", width, n, got)
			}
		}
	}
}

// Promise 3.1: Put of no width.
func TestPutWrong(t *testing.T) {
	for _, width := range wrongWidths {
		var w Writer
		w.Raw("a")
		w.Put(width, 5)
		if got := w.Out(); got != "a" {
			t.Errorf("Put(%d, 5) writes %q behind a", width, got)
		}
	}
}

// Promise 3.1: Raw writes all bytes as they are; a copy of a writer goes on by itself.
func TestWriterRaw(t *testing.T) {
	all := allBytes()
	var w Writer
	for i := range 1000 {
		w.Raw(all)
		w.Put(1, uint64(i))
	}
	got := w.Out()
	if len(got) != 257000 {
		t.Fatalf("%d bytes were written", len(got))
	}
	for i := range 1000 {
		if part := got[257*i : 257*i+257]; part != all+string([]byte{byte(i)}) {
			t.Fatalf("the part %d is %x", i, part)
		}
	}
	other := w
	w.Raw("w")
	other.Raw("other")
	if w.Out() != got+"w" || other.Out() != got+"other" {
		t.Error("a writer and its copy are mixed up")
	}
}

// Promise 3.2: Get, Signed, Raw, Left and Bad.
func TestReader(t *testing.T) {
	r := Open("\x02\x01\xfe\xffabc\xff")
	left(t, r, 8, false)
	if got := r.Get(2); got != 0x0102 {
		t.Errorf("Get(2) is %#x", got)
	}
	left(t, r, 6, false)
	if got := r.Signed(2); got != -2 {
		t.Errorf("Signed(2) is %d", got)
	}
	if got := r.Raw(0); got != "" {
		t.Errorf("Raw(0) is %q", got)
	}
	left(t, r, 4, false)
	if got := r.Raw(3); got != "abc" {
		t.Errorf("Raw(3) is %q", got)
	}
	if got := r.Signed(1); got != -1 {
		t.Errorf("Signed(1) is %d", got)
	}
	left(t, r, 0, false)
	if got := r.Raw(0); got != "" {
		t.Errorf("Raw(0) is %q", got)
	}
	left(t, r, 0, false)
	if got := r.Get(1); got != 0 {
		t.Errorf("Get(1) at the end is %d", got)
	}
	left(t, r, 0, true)
}

// left holds what r has left, and whether it is bad, against what they should be.
func left(t *testing.T, r *Reader, n int, bad bool) {
	t.Helper()
	if r.Left() != n || r.Bad() != bad {
		t.Errorf("Left is %d, Bad %v, not %d, %v", r.Left(), r.Bad(), n, bad)
	}
}

// Promise 3.2: Get and Signed of each width, held against the library.
func TestGetWidths(t *testing.T) {
	for _, n := range numbers() {
		full := string(binary.LittleEndian.AppendUint64(nil, n))
		for width := 1; width <= 8; width++ {
			most := uint64(math.MaxUint64) >> (64 - 8*width)
			if got := Open(full).Get(width); got != n&most {
				t.Errorf("Get(%d) of %x is %#x", width, full, got)
			}
			want := n & most
			if want>>(8*width-1) == 1 {
				want -= most + 1
			}
			r := Open(full)
			if got := r.Signed(width); got != int64(want) {
				t.Errorf("Signed(%d) of %x is %d, not %d", width, full, got, int64(want))
			}
			left(t, r, 8-width, false)
		}
	}
}

// Promise 3.2: the edges of Signed, as they are written out.
func TestSigned(t *testing.T) {
	right := []struct {
		bytes string
		want  int64
	}{
		{"\x7f", 127}, {"\x80", -128}, {"\xff", -1}, {"\x00", 0},
		{"\xff\x7f", 32767}, {"\x00\x80", -32768}, {"\x80\x00", 128},
		{"\x00\x00\x80", -8388608}, {"\xff\xff\xff\x7f", math.MaxInt32}, {"\x00\x00\x00\x80", math.MinInt32},
		{"\xff\xff\xff\xff\xff\xff\xff\x7f", math.MaxInt64}, {"\x00\x00\x00\x00\x00\x00\x00\x80", math.MinInt64},
	}
	for _, r := range right {
		if got := Open(r.bytes).Signed(len(r.bytes)); got != r.want {
			t.Errorf("Signed(%d) of %x is %d", len(r.bytes), r.bytes, got)
		}
	}
}

// Promise 3.2: what makes a reader bad; from there on it answers zero.
func TestBad(t *testing.T) {
	const s = "\xff\xff\xff"
	ways := []func(r *Reader) bool{
		func(r *Reader) bool { return r.Get(4) == 0 },
		func(r *Reader) bool { return r.Signed(4) == 0 },
		func(r *Reader) bool { return r.Raw(4) == "" },
		func(r *Reader) bool { return r.Raw(-1) == "" },
		func(r *Reader) bool { return r.Raw(math.MinInt) == "" },
		func(r *Reader) bool { return r.Raw(math.MaxInt) == "" },
	}
	for _, width := range wrongWidths {
		ways = append(ways, func(r *Reader) bool { return r.Get(width) == 0 }, func(r *Reader) bool { return r.Signed(width) == 0 })
	}
	for i, way := range ways {
		r := Open(s)
		if !way(r) {
			t.Errorf("the way %d answers something", i)
		}
		left(t, r, 0, true)
		if r.Get(1) != 0 || r.Signed(1) != 0 || r.Raw(1) != "" || r.Raw(0) != "" || r.Signed(9) != 0 {
			t.Errorf("after the way %d, a bad reader answers something", i)
		}
		left(t, r, 0, true)
	}
}

// Promise 3.2: two readers of one text are two; a text of nothing is not bad.
func TestOpen(t *testing.T) {
	left(t, Open(""), 0, false)
	a, b := Open("ab"), Open("ab")
	a.Get(9)
	left(t, b, 2, false)
	if got := b.Raw(2); got != "ab" {
		t.Errorf("the other reader has %q", got)
	}
	all := allBytes()
	if got := Open(all).Raw(256); got != all {
		t.Errorf("Raw(256) is %x", got)
	}
}

// Where there is no writer and no reader, nothing panics.
func TestNone(t *testing.T) {
	var w *Writer
	w.Put(1, 1)
	w.Raw("a")
	if got := w.Out(); got != "" {
		t.Errorf("no writer has %q", got)
	}
	var r *Reader
	if r.Get(1) != 0 || r.Get(0) != 0 || r.Signed(1) != 0 || r.Signed(0) != 0 || r.Raw(1) != "" || r.Raw(0) != "" || r.Raw(-1) != "" {
		t.Error("no reader answers something")
	}
	left(t, r, 0, true)
}

// Promise 3.3: Hex, and Unhex of what it writes.
func TestHex(t *testing.T) {
	right := []struct{ bytes, text string }{
		{"", ""}, {"\x00", "00"}, {"\xff", "ff"}, {"\x0a\xb0", "0a,b0"}, {"abc", "61,62,63"}, {"\x01\x02\x03\x04", "01,02,03,04"}, {"\u00e9\n", "c3,a9,0a"},
	}
	for _, r := range right {
		if got := Hex(r.bytes); got != r.text {
			t.Errorf("Hex(%q) is %q", r.bytes, got)
		}
		if got, why := Unhex(r.text); got != r.bytes || why != api.OK {
			t.Errorf("Unhex(%q) is %q, %d", r.text, got, why)
		}
	}
}

// Promise 3.3: Unhex takes great letters as small ones.
func TestUnhexLetters(t *testing.T) {
	for _, s := range []string{"AB,CD,EF", "ab,cd,ef", "aB,Cd,eF", "Ab,cD,Ef"} {
		if got, why := Unhex(s); got != "\xab\xcd\xef" || why != api.OK {
			t.Errorf("Unhex(%q) is %x, %d", s, got, why)
		}
	}
}

// Promise 3.3: Unhex of what is no Hex.
func TestUnhexWrong(t *testing.T) {
	wrong := []string{
		",", ",,", "0", "a", "000", "0000", "00,", ",00", "00,0", "00,000", "0,00", "00,,00", "00,00,", " 00", "00 ", "00, 00", "00 00", "00;00", "00-00",
		"0g", "g0", "0G", "G0", "/0", "0/", ":0", "0:", "@0", "0@", "`0", "0`", "x0", "0x", "-1", "+1", "00,0g", "00,g0", "00,00,0-", "\x00\x00", "00\n00", "\u0660", "00,\u0660",
		"0000000", "00,00000", "00000,00", strings.Repeat(",", 1000), strings.Repeat("0", 1001), strings.Repeat("00,", 1000),
	}
	for _, s := range wrong {
		if got, why := Unhex(s); got != "" || why != api.ErrSyntax {
			t.Errorf("Unhex(%q) is %q, %d", s, got, why)
		}
	}
}

// Promise 3.3: each two bytes as digits, and each byte as one of its parts, held against the library.
func TestUnhexPairs(t *testing.T) {
	for i := range 256 * 256 {
		pair := string([]byte{byte(i >> 8), byte(i)})
		want, err := hex.DecodeString(pair)
		got, why := Unhex(pair)
		if err != nil && (got != "" || why != api.ErrSyntax) || err == nil && (got != string(want) || why != api.OK) {
			t.Errorf("Unhex(%q) is %q, %d", pair, got, why)
		}
	}
	for i := range 256 {
		s := "12" + string([]byte{byte(i)}) + "34"
		got, why := Unhex(s)
		if i == ',' && (got != "\x12\x34" || why != api.OK) || i != ',' && (got != "" || why != api.ErrSyntax) {
			t.Errorf("Unhex(%q) is %q, %d", s, got, why)
		}
	}
}

// Promise 3.4: what is written is read as it was.
func TestWrittenThenRead(t *testing.T) {
	var w Writer
	for _, n := range numbers() {
		for width := 1; width <= 8; width++ {
			w.Put(width, n)
			w.Put(width, n)
		}
		w.Raw("a\x00b")
	}
	r := Open(w.Out())
	for _, n := range numbers() {
		for width := 1; width <= 8; width++ {
			above := 64 - 8*width
			if got := r.Get(width); got != n<<above>>above {
				t.Fatalf("Get(%d) is %#x, not %#x", width, got, n)
			}
			if got := r.Signed(width); got != int64(n<<above)>>above {
				t.Fatalf("Signed(%d) is %d, not that of %#x", width, got, n)
			}
		}
		if got := r.Raw(3); got != "a\x00b" {
			t.Fatalf("Raw(3) is %q", got)
		}
	}
	left(t, r, 0, false)
}

// Promise 3.4: bytes are read from their digits.
func TestHexThereAndBack(t *testing.T) {
	all := strings.Repeat(allBytes(), 5)
	for n := range len(all) {
		for _, s := range []string{all[:n], all[n:]} {
			text := Hex(s)
			if got, why := Unhex(text); got != s || why != api.OK {
				t.Fatalf("Unhex(Hex(%x)) is %x, %d", s, got, why)
			}
			if got, why := Unhex(strings.ToUpper(text)); got != s || why != api.OK {
				t.Fatalf("Unhex of great letters of %x is %x, %d", s, got, why)
			}
			if want := hex.EncodeToString([]byte(s)); strings.ReplaceAll(text, ",", "") != want || s != "" && strings.Count(text, ",") != len(s)-1 {
				t.Fatalf("Hex(%x) is %q", s, text)
			}
		}
	}
}
