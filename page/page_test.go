package page

import (
	"encoding/binary"
	"fmt"
	"hash/crc32"
	"math"
	"math/rand"
	"slices"
	"strings"
	"testing"

	"horologe/api"
	"horologe/disk"
)

var (
	goodIDs    = []int{0, 1, 2, 255, 256, 1022, 1023, 4096, math.MaxInt32, math.MaxUint32 + 1, api.MaxNumber, api.MaxNumber + 1, math.MaxInt - 1, math.MaxInt}
	goodEpochs = []int{0, 1, 2, 258, math.MaxInt32, math.MaxUint32, 1<<40 - 1, 1 << 40}
	goodKinds  = []int{0, api.KTable, api.KData, 3, 258, 0x01020304, math.MaxInt32 - 1, math.MaxInt32}
	goodSizes  = []int{0, 1, 2, 60, 100, 230, 231, 232}
	badIDs     = []int{-1, -2, -256, -1 << 40, math.MinInt + 1, math.MinInt}
	badEpochs  = []int{-1, -2, -1 << 40, 1<<40 + 1, 1<<40 + 2, 1 << 41, math.MaxInt, math.MinInt}
	badKinds   = []int{-1, -2, math.MinInt32, 1 << 31, 1<<31 + 1, math.MaxUint32, 1 << 32, 1<<32 + 1, math.MaxInt, math.MinInt}
	badSizes   = []int{233, 234, 252, 256, 257, 4096, 5000}
)

// text are so many bytes, of which no two that stand beside each other are alike, none of them 0.
func text(n, from int) string {
	b := make([]byte, n)
	for i := range b {
		b[i] = byte(1 + (from+i)%255)
	}
	return string(b)
}

func randomText(r *rand.Rand, n int) string {
	b := make([]byte, n)
	r.Read(b)
	return string(b)
}

// full is a payload with bytes 0 behind it.
func full(s string) string { return s + strings.Repeat("\x00", 232-len(s)) }

func filled(p api.Page) api.Page {
	p.Payload = full(p.Payload)
	return p
}

// laid puts the check ahead of bytes, in another way than the program does.
func laid(s string) string {
	sum := crc32.Checksum([]byte(s), crc32.MakeTable(crc32.Castagnoli))
	return string(binary.LittleEndian.AppendUint32(nil, sum)) + s
}

// body is the 252 bytes of a page, of which ID and Epoch may be any numbers, and Kind any of 32 bits.
func body(p api.Page) string {
	b := binary.BigEndian.AppendUint64(nil, uint64(p.ID)+1<<63)
	b = binary.BigEndian.AppendUint64(b, uint64(p.Epoch)+1<<63)
	b = binary.BigEndian.AppendUint32(b, uint32(p.Kind))
	return string(b) + full(p.Payload)
}

func wantPut(p api.Page) (string, api.Errno) {
	if p.ID < 0 || p.Epoch < 0 || p.Epoch > 1<<40 || p.Kind < 0 || p.Kind >= 1<<31 {
		return "", api.ErrArg
	}
	if len(p.Payload) > 232 {
		return "", api.ErrBig
	}
	return laid(body(p)), api.OK
}

func wantGet(s string) (api.Page, api.Errno) {
	if len(s) != 256 {
		return api.Page{}, api.ErrForm
	}
	b := []byte(s)
	p := api.Page{
		ID:      int(binary.BigEndian.Uint64(b[4:]) - 1<<63),
		Epoch:   int(binary.BigEndian.Uint64(b[12:]) - 1<<63),
		Kind:    int(binary.BigEndian.Uint32(b[20:])),
		Payload: s[24:],
	}
	if s != laid(s[4:]) || p.ID < 0 || p.Epoch < 0 || p.Epoch > 1<<40 || p.Kind >= 1<<31 {
		return api.Page{}, api.ErrCorrupt
	}
	return p, api.OK
}

// goodPages are pages of every good ID, epoch, kind and size.
func goodPages() []api.Page {
	var l []api.Page
	for i, id := range goodIDs {
		for j, epoch := range goodEpochs {
			for k, kind := range goodKinds {
				size := goodSizes[(i+j+k)%len(goodSizes)]
				l = append(l, api.Page{ID: id, Epoch: epoch, Kind: kind, Payload: text(size, i*j+k)})
			}
		}
	}
	return l
}

// badPages are pages of which one number, or some, may not be.
func badPages() []api.Page {
	var l []api.Page
	for _, id := range badIDs {
		l = append(l, api.Page{ID: id}, api.Page{ID: id, Epoch: 7, Kind: 2, Payload: "x"})
	}
	for _, epoch := range badEpochs {
		l = append(l, api.Page{Epoch: epoch}, api.Page{ID: 1, Epoch: epoch, Kind: 2, Payload: "x"})
	}
	for _, kind := range badKinds {
		l = append(l, api.Page{Kind: kind}, api.Page{ID: 1, Epoch: 7, Kind: kind, Payload: "x"})
	}
	return append(l, api.Page{ID: -1, Epoch: -1, Kind: -1}, api.Page{ID: math.MinInt, Epoch: math.MaxInt, Kind: math.MaxInt})
}

func put(t *testing.T, p api.Page) string {
	t.Helper()
	s, e := Put(p)
	if e != api.OK {
		t.Fatal("Put", p, int(e))
	}
	return s
}

func checkPut(t *testing.T, p api.Page) {
	t.Helper()
	want, f := wantPut(p)
	if got, e := Put(p); got != want || e != f {
		t.Errorf("Put(%d, %d, %d, %d bytes) = %x, error %d, not %x, error %d", p.ID, p.Epoch, p.Kind, len(p.Payload), got, int(e), want, int(f))
	}
}

func checkGet(t *testing.T, s string, want api.Page, f api.Errno) {
	t.Helper()
	if got, e := Get(s); got != want || e != f {
		t.Errorf("Get(%x) = %+v, error %d, not %+v, error %d", s, got, int(e), want, int(f))
	}
}

func checkCorrupt(t *testing.T, s string) {
	t.Helper()
	checkGet(t, s, api.Page{}, api.ErrCorrupt)
}

// P11.1

func TestPutByHand(t *testing.T) {
	numbers := "\x80\x00\x00\x00\x00\x00\x00\x02" + "\x80\x00\x00\x00\x00\x00\x01\x07" + "\x00\x00\x00\x01"
	want := laid(numbers + "text" + strings.Repeat("\x00", 228))
	if len(want) != 256 {
		t.Fatal(len(want))
	}
	got, e := Put(api.Page{ID: 2, Epoch: 263, Kind: api.KTable, Payload: "text"})
	if got != want || e != api.OK {
		t.Errorf("%x, error %d, not %x", got, int(e), want)
	}
	checkGet(t, want, api.Page{ID: 2, Epoch: 263, Kind: 1, Payload: "text" + strings.Repeat("\x00", 228)}, api.OK)
	numbers = "\xff\xff\xff\xff\xff\xff\xff\xff" + "\x80\x00\x01\x00\x00\x00\x00\x00" + "\x7f\xff\xff\xff"
	want = laid(numbers + strings.Repeat("\xff", 232))
	got, e = Put(api.Page{ID: math.MaxInt, Epoch: 1 << 40, Kind: math.MaxInt32, Payload: strings.Repeat("\xff", 232)})
	if got != want || e != api.OK {
		t.Errorf("%x, error %d, not %x", got, int(e), want)
	}
	want = laid("\x80" + strings.Repeat("\x00", 7) + "\x80" + strings.Repeat("\x00", 7+4+232))
	if got, e = Put(api.Page{}); got != want || e != api.OK {
		t.Errorf("%x, error %d, not %x", got, int(e), want)
	}
}

func TestPut(t *testing.T) {
	for _, p := range goodPages() {
		checkPut(t, p)
	}
	for n := range 240 {
		checkPut(t, api.Page{ID: 3, Epoch: 4, Kind: api.KData, Payload: text(n, n)})
	}
	r := rand.New(rand.NewSource(1))
	for range 300 {
		checkPut(t, api.Page{ID: int(r.Uint64() >> r.Intn(64)), Epoch: int(r.Uint64() >> r.Intn(64)), Kind: int(r.Uint64() >> r.Intn(64)), Payload: randomText(r, r.Intn(240))})
	}
}

// TestPutAnyBytes: a payload's bytes stay as they are, whether they are parts of letters or not.
func TestPutAnyBytes(t *testing.T) {
	for i := range 256 {
		for _, s := range []string{string([]byte{byte(i)}), strings.Repeat(string([]byte{byte(i)}), 232), "\x00\x00" + string([]byte{byte(i), 0, byte(i)})} {
			checkPut(t, api.Page{ID: 1, Kind: api.KData, Payload: s})
		}
	}
	checkPut(t, api.Page{ID: 1, Payload: strings.Repeat("é", 116)[1:]})
}

func checkPutRefused(t *testing.T, p api.Page, want api.Errno) {
	t.Helper()
	if got, e := Put(p); got != "" || e != want {
		t.Errorf("Put(%d, %d, %d, %d bytes) = %d bytes, error %d, not %d", p.ID, p.Epoch, p.Kind, len(p.Payload), len(got), int(e), int(want))
	}
}

func TestPutRefuses(t *testing.T) {
	for _, p := range badPages() {
		checkPutRefused(t, p, api.ErrArg)
		for _, n := range badSizes {
			// What may not be is named ahead of what is too big.
			p.Payload = text(n, 0)
			checkPutRefused(t, p, api.ErrArg)
		}
	}
	for _, n := range badSizes {
		checkPutRefused(t, api.Page{Payload: text(n, 0)}, api.ErrBig)
		checkPutRefused(t, api.Page{Payload: strings.Repeat("\x00", n)}, api.ErrBig)
		checkPutRefused(t, api.Page{ID: math.MaxInt, Epoch: 1 << 40, Kind: math.MaxInt32, Payload: text(n, 0)}, api.ErrBig)
	}
}

func TestGet(t *testing.T) {
	for _, p := range goodPages() {
		checkGet(t, laid(body(p)), filled(p), api.OK)
	}
	for i := range 256 {
		p := api.Page{ID: i, Epoch: i, Kind: i, Payload: strings.Repeat(string([]byte{byte(i)}), 232)}
		checkGet(t, laid(body(p)), p, api.OK)
	}
}

// TestGetForm: of texts that are not of 256 bytes the length is named, whether their check is right or not.
func TestGetForm(t *testing.T) {
	s := laid(body(api.Page{ID: 1, Epoch: 2, Kind: 2, Payload: "x"}))
	checkGet(t, s, filled(api.Page{ID: 1, Epoch: 2, Kind: 2, Payload: "x"}), api.OK)
	for n := range 256 {
		checkGet(t, s[:n], api.Page{}, api.ErrForm)
		checkGet(t, s[256-n:], api.Page{}, api.ErrForm)
	}
	for _, n := range []int{0, 1, 3, 20, 232, 248, 250, 251, 253, 254, 256, 508, 1000} {
		checkGet(t, laid(text(n, 0)), api.Page{}, api.ErrForm)
		checkGet(t, laid((body(api.Page{}) + text(1000, 0))[:n]), api.Page{}, api.ErrForm)
	}
	for _, n := range []int{1, 2, 64, 256, 4096} {
		checkGet(t, s+strings.Repeat("\x00", n), api.Page{}, api.ErrForm)
		checkGet(t, strings.Repeat("\x00", n)+s, api.Page{}, api.ErrForm)
	}
	for _, n := range []int{0, 255, 257, 512} {
		checkGet(t, strings.Repeat("\x00", n), api.Page{}, api.ErrForm)
		checkGet(t, text(n, 0), api.Page{}, api.ErrForm)
	}
}

// TestGetTurned: whichever byte is turned, into whatever else, the check tells it.
func TestGetTurned(t *testing.T) {
	for _, p := range []api.Page{{}, {ID: 5, Epoch: 9, Kind: api.KData, Payload: text(232, 7)}} {
		s := put(t, p)
		for at := range 256 {
			for x := 1; x < 256; x++ {
				b := []byte(s)
				b[at] ^= byte(x)
				if got, e := Get(string(b)); got != (api.Page{}) || e != api.ErrCorrupt {
					t.Fatalf("byte %d turned by %02x: %+v, error %d", at, x, got, int(e))
				}
			}
		}
	}
}

// TestGetMayNot: a right check doesn't help numbers that may not be.
func TestGetMayNot(t *testing.T) {
	for _, x := range []string{"", "x", text(232, 3)} {
		for _, id := range badIDs {
			checkCorrupt(t, laid(body(api.Page{ID: id, Epoch: 1, Kind: 2, Payload: x})))
		}
		for _, epoch := range badEpochs {
			checkCorrupt(t, laid(body(api.Page{ID: 1, Epoch: epoch, Kind: 2, Payload: x})))
		}
		for _, kind := range []int{1 << 31, 1<<31 + 1, 3 << 30, math.MaxUint32 - 1, math.MaxUint32} {
			checkCorrupt(t, laid(body(api.Page{ID: 1, Epoch: 1, Kind: kind, Payload: x})))
		}
	}
	checkCorrupt(t, laid(strings.Repeat("\x00", 252)))
	checkCorrupt(t, laid(strings.Repeat("\xff", 252)))
}

func TestGetWrongCheck(t *testing.T) {
	b := body(api.Page{ID: 1, Epoch: 2, Kind: 2, Payload: "payload"})
	c := laid(b)[:4]
	for _, s := range []string{
		strings.Repeat("\x00", 256),
		strings.Repeat("\xff", 256),
		text(256, 0),
		"\x00\x00\x00\x00" + b,
		"\xff\xff\xff\xff" + b,
		// The highest byte first; the bits not turned; the check behind; another page's; one of fewer bytes.
		string([]byte{c[3], c[2], c[1], c[0]}) + b,
		string([]byte{^c[0], ^c[1], ^c[2], ^c[3]}) + b,
		b + c,
		c + body(api.Page{ID: 2, Epoch: 2, Kind: 2}),
		c + b[:251] + "\x01",
		laid(b[:251]) + "\x00",
	} {
		checkCorrupt(t, s)
	}
	r := rand.New(rand.NewSource(2))
	for range 300 {
		if s := randomText(r, 256); s != laid(s[4:]) {
			checkCorrupt(t, s)
		}
	}
}

// anyNumber is a number of any size, which may be what may not be.
func anyNumber(r *rand.Rand) int { return int(r.Uint64()>>r.Intn(64)) * (1 - 2*r.Intn(2)) }

// TestGetAny: of any 252 bytes with their check it is told by their numbers whether they are a page.
func TestGetAny(t *testing.T) {
	r := rand.New(rand.NewSource(3))
	pages := 0
	for range 3000 {
		s := laid(body(api.Page{ID: anyNumber(r), Epoch: anyNumber(r), Kind: int(r.Uint32() >> r.Intn(32)), Payload: randomText(r, 232)}))
		want, f := wantGet(s)
		checkGet(t, s, want, f)
		if f == api.OK {
			pages++
		}
	}
	if pages < 100 || pages > 2900 {
		t.Error("too little of one kind was tried:", pages)
	}
}

// P11.2

func disked(t *testing.T, sectors int) *disk.Disk {
	t.Helper()
	d, e := disk.New(sectors)
	if e != api.OK {
		t.Fatal("New", sectors, int(e))
	}
	return d
}

// noisy is a disk whose sectors are any bytes, all of them safe.
func noisy(t *testing.T, sectors, from int) *disk.Disk {
	t.Helper()
	d, e := disk.Of(text(64*sectors, from))
	if e != api.OK {
		t.Fatal("Of", sectors, int(e))
	}
	return d
}

// image is all of a disk's bytes.
func image(t *testing.T, d *disk.Disk) string {
	t.Helper()
	var b strings.Builder
	for i := range d.Sectors() {
		s, e := d.Read(i)
		if e != api.OK {
			t.Fatal("sector", i, int(e))
		}
		b.WriteString(s)
	}
	return b.String()
}

// over is an image with bytes laid over it from a sector on.
func over(image string, sector int, s string) string {
	return image[:64*sector] + s + image[64*sector+len(s):]
}

func write(t *testing.T, d *disk.Disk, p api.Page) {
	t.Helper()
	if e := Write(d, p); e != api.OK {
		t.Fatal("Write", p.ID, int(e))
	}
}

func sync(t *testing.T, d *disk.Disk) {
	t.Helper()
	if e := d.Sync(); e != api.OK {
		t.Fatal("Sync", int(e))
	}
}

func crash(t *testing.T, d *disk.Disk, c api.Crash) {
	t.Helper()
	if e := d.Crash(c); e != api.OK {
		t.Fatal("Crash", int(e))
	}
}

func arm(t *testing.T, d *disk.Disk, n int) {
	t.Helper()
	if e := d.Arm(n); e != api.OK {
		t.Fatal("Arm", n, int(e))
	}
}

// down is a disk that is down, whose sectors are any bytes.
func down(t *testing.T, sectors int) *disk.Disk {
	t.Helper()
	d := noisy(t, sectors, 0)
	arm(t, d, 1)
	if e := d.Sync(); e != api.ErrDown || !d.Down() {
		t.Fatal(int(e))
	}
	return d
}

func checkRead(t *testing.T, d *disk.Disk, id int, want api.Page, f api.Errno) {
	t.Helper()
	calls, loose := d.Calls(), d.Loose()
	if got, e := Read(d, id); got != want || e != f {
		t.Errorf("Read(%d) = %+v, error %d, not %+v, error %d", id, got, int(e), want, int(f))
	}
	if d.Calls() != calls || d.Loose() != loose {
		t.Error("Read has changed the disk")
	}
}

func everything() api.Crash {
	return api.Crash{Keep: slices.Repeat([]bool{true}, api.MaxSectors), Torn: -1}
}

func nothing() api.Crash { return api.Crash{Torn: -1} }

// The chapter's example.
func TestExample(t *testing.T) {
	if n := Many(disked(t, 10)); n != 2 {
		t.Error(n)
	}
}

func TestMany(t *testing.T) {
	for sectors, want := range map[int]int{1: 0, 2: 0, 3: 0, 4: 0, 5: 0, 6: 1, 7: 1, 9: 1, 10: 2, 13: 2, 14: 3, 4093: 1022, 4094: 1023, 4095: 1023, 4096: 1023} {
		d := disked(t, sectors)
		if n := Many(d); n != want {
			t.Errorf("%d sectors: %d pages, not %d", sectors, n, want)
		}
		if d.Calls() != 0 || d.Loose() != 0 {
			t.Error("Many has changed the disk")
		}
	}
	if n := Many(nil); n != 0 {
		t.Error("of nil:", n)
	}
	if n := Many(down(t, 14)); n != 3 {
		t.Error("of a disk that is down:", n)
	}
}

// TestManyAreThere: so many pages there are, and no more.
func TestManyAreThere(t *testing.T) {
	for _, sectors := range []int{1, 2, 3, 4, 5, 6, 7, 8, 9, 10, 11, 14, 18, 200, 4095, 4096} {
		d := noisy(t, sectors, sectors)
		many := Many(d)
		for _, id := range []int{0, 1, many / 2, many - 2, many - 1} {
			if id < 0 || id >= many {
				continue
			}
			p := api.Page{ID: id, Epoch: sectors, Kind: api.KData, Payload: fmt.Sprint("page ", id)}
			write(t, d, p)
			checkRead(t, d, id, filled(p), api.OK)
		}
		before, calls := image(t, d), d.Calls()
		for _, id := range []int{many, many + 1, many + 2, many + 1023, 1023, 1024, math.MaxInt32, 1 << 32, 1 << 61, 1 << 62, math.MaxInt/4 + 1, math.MaxInt - 1, math.MaxInt} {
			if e := Write(d, api.Page{ID: id, Kind: api.KData}); e != api.ErrRange {
				t.Errorf("%d sectors, page %d: error %d", sectors, id, int(e))
			}
			checkRead(t, d, id, api.Page{}, api.ErrRange)
		}
		for _, id := range badIDs {
			if e := Write(d, api.Page{ID: id, Kind: api.KData}); e != api.ErrArg {
				t.Errorf("%d sectors, page %d: error %d", sectors, id, int(e))
			}
			checkRead(t, d, id, api.Page{}, api.ErrRange)
		}
		if image(t, d) != before || d.Calls() != calls {
			t.Error(sectors, "what was refused has changed the disk")
		}
	}
}

// TestWriteWhere: a page's bytes lie on its four sectors, and nothing is made safe.
func TestWriteWhere(t *testing.T) {
	for _, sectors := range []int{6, 10, 14, 17, 300} {
		for id := range Many(disked(t, sectors)) {
			d := noisy(t, sectors, id)
			before := image(t, d)
			p := api.Page{ID: id, Epoch: 1 << 40, Kind: id, Payload: text(232, 77)}
			write(t, d, p)
			if d.Calls() != 4 || d.Loose() != 4 {
				t.Errorf("page %d of %d sectors: %d calls, %d loose", id, sectors, d.Calls(), d.Loose())
			}
			if image(t, d) != over(before, 2+4*id, laid(body(p))) {
				t.Errorf("page %d of %d sectors: other bytes", id, sectors)
			}
			crash(t, d, nothing())
			if image(t, d) != before {
				t.Errorf("page %d of %d sectors: safe without a Sync", id, sectors)
			}
		}
	}
}

// TestReadWhere: what lies on the four sectors is read, whoever wrote it.
func TestReadWhere(t *testing.T) {
	for id := range 5 {
		p := filled(api.Page{ID: id, Epoch: id * 3, Kind: math.MaxInt32, Payload: text(200, id)})
		d, e := disk.Of(over(text(64*24, 9), 2+4*id, laid(body(p))))
		if e != api.OK {
			t.Fatal(int(e))
		}
		for other := range 5 {
			if other == id {
				checkRead(t, d, id, p, api.OK)
			} else {
				checkRead(t, d, other, api.Page{}, api.ErrCorrupt)
			}
		}
	}
}

func TestWriteAndReadAgain(t *testing.T) {
	d := noisy(t, 4096, 1)
	many := Many(d)
	var l []api.Page
	for id := range many {
		l = append(l, api.Page{ID: id, Epoch: goodEpochs[id%len(goodEpochs)], Kind: goodKinds[id/3%len(goodKinds)], Payload: text(goodSizes[id%7], id)})
	}
	for _, i := range rand.New(rand.NewSource(4)).Perm(many) {
		write(t, d, l[i])
		checkRead(t, d, i, filled(l[i]), api.OK)
	}
	for id, p := range l {
		checkRead(t, d, id, filled(p), api.OK)
		checkRead(t, d, id, filled(p), api.OK)
	}
	sync(t, d)
	crash(t, d, nothing())
	for id, p := range l {
		checkRead(t, d, id, filled(p), api.OK)
	}
}

// TestWriteTwice: of a page that is written again nothing stays of what was there.
func TestWriteTwice(t *testing.T) {
	d := disked(t, 10)
	for _, p := range []api.Page{
		{ID: 1, Epoch: 1 << 40, Kind: math.MaxInt32, Payload: strings.Repeat("\xff", 232)},
		{ID: 1, Epoch: 1, Kind: 1, Payload: "short"},
		{ID: 1},
		{ID: 1, Epoch: 2, Kind: 2, Payload: text(232, 0)},
		{ID: 1, Epoch: 2, Kind: 2, Payload: text(231, 0)},
		{ID: 1, Epoch: 1, Kind: 2},
	} {
		write(t, d, p)
		write(t, d, p)
		checkRead(t, d, 1, filled(p), api.OK)
		if image(t, d) != strings.Repeat("\x00", 64*6)+laid(body(p)) {
			t.Error("other bytes")
		}
	}
}

func TestEitherOrder(t *testing.T) {
	a := filled(api.Page{ID: 0, Epoch: 3, Kind: api.KTable, Payload: "first"})
	b := filled(api.Page{ID: 1, Epoch: 4, Kind: api.KData, Payload: text(232, 5)})
	for _, order := range [][]api.Page{{a, b}, {b, a}} {
		d := disked(t, 10)
		for _, p := range order {
			write(t, d, p)
		}
		checkRead(t, d, 0, a, api.OK)
		checkRead(t, d, 1, b, api.OK)
		if image(t, d) != strings.Repeat("\x00", 128)+laid(body(a))+laid(body(b)) {
			t.Error("other bytes")
		}
	}
}

// TestWriteErrors holds the order of Write's errors: nil, what may not be, what is too big, no such page, down.
func TestWriteErrors(t *testing.T) {
	big := text(233, 0)
	broken := down(t, 10)
	for _, c := range []struct {
		d    *disk.Disk
		p    api.Page
		want api.Errno
	}{
		{nil, api.Page{}, api.ErrNil},
		{nil, api.Page{ID: -1, Payload: big}, api.ErrNil},
		{nil, api.Page{Payload: big}, api.ErrNil},
		{nil, api.Page{ID: 2}, api.ErrNil},
		{broken, api.Page{ID: -1, Payload: big}, api.ErrArg},
		{broken, api.Page{ID: 2, Epoch: -1, Payload: big}, api.ErrArg},
		{broken, api.Page{ID: 2, Epoch: 1<<40 + 1}, api.ErrArg},
		{broken, api.Page{ID: 2, Kind: 1 << 31, Payload: big}, api.ErrArg},
		{broken, api.Page{ID: 2, Kind: -1}, api.ErrArg},
		{broken, api.Page{ID: 2, Payload: big}, api.ErrBig},
		{broken, api.Page{ID: 1, Payload: big}, api.ErrBig},
		{broken, api.Page{ID: 2}, api.ErrRange},
		{broken, api.Page{ID: math.MaxInt}, api.ErrRange},
		{broken, api.Page{ID: 1}, api.ErrDown},
		{broken, api.Page{ID: 0, Payload: text(232, 0)}, api.ErrDown},
	} {
		if e := Write(c.d, c.p); e != c.want {
			t.Errorf("Write(%v, %d, %d, %d, %d bytes): error %d, not %d", c.d != nil, c.p.ID, c.p.Epoch, c.p.Kind, len(c.p.Payload), int(e), int(c.want))
		}
	}
	if broken.Calls() != 1 || broken.Loose() != 0 {
		t.Error("a disk that is down was written")
	}
	crash(t, broken, nothing())
	if image(t, broken) != text(640, 0) {
		t.Error("other bytes")
	}
}

// TestWriteRefused: what is refused changes nothing of a disk that is up.
func TestWriteRefused(t *testing.T) {
	d := noisy(t, 11, 0)
	before := image(t, d)
	refused := append(badPages(), api.Page{ID: 2}, api.Page{ID: math.MaxInt}, api.Page{Payload: text(233, 0)}, api.Page{ID: 2, Payload: text(233, 0)})
	for _, p := range refused {
		want := api.ErrArg
		if _, f := wantPut(p); f == api.ErrBig {
			want = api.ErrBig
		} else if f == api.OK {
			want = api.ErrRange
		}
		if e := Write(d, p); e != want {
			t.Errorf("Write(%d, %d, %d, %d bytes): error %d, not %d", p.ID, p.Epoch, p.Kind, len(p.Payload), int(e), int(want))
		}
	}
	if d.Calls() != 0 || d.Loose() != 0 || image(t, d) != before {
		t.Error("the disk has changed")
	}
}

// TestReadErrors holds the order of Read's errors: nil, no such page, down, what Get says, another page.
func TestReadErrors(t *testing.T) {
	for _, id := range []int{math.MinInt, -1, 0, 1, math.MaxInt} {
		if p, e := Read(nil, id); p != (api.Page{}) || e != api.ErrNil {
			t.Error(id, p, int(e))
		}
	}
	d := disked(t, 11)
	write(t, d, api.Page{ID: 0, Kind: api.KData})
	arm(t, d, 1)
	if e := d.Sync(); e != api.ErrDown {
		t.Fatal(int(e))
	}
	for _, id := range []int{math.MinInt, -2, -1, 2, 3, 1 << 62, math.MaxInt} {
		checkRead(t, d, id, api.Page{}, api.ErrRange)
	}
	checkRead(t, d, 0, api.Page{}, api.ErrDown)
	checkRead(t, d, 1, api.Page{}, api.ErrDown)
	crash(t, d, everything())
	checkRead(t, d, 0, filled(api.Page{ID: 0, Kind: api.KData}), api.OK)
	checkRead(t, d, 1, api.Page{}, api.ErrCorrupt)
}

// TestReadNew: of a new disk no page can be read.
func TestReadNew(t *testing.T) {
	d := disked(t, 14)
	for id := range 3 {
		checkRead(t, d, id, api.Page{}, api.ErrCorrupt)
	}
}

// lay lays bytes on a disk's sectors, whatever they say.
func lay(t *testing.T, d *disk.Disk, sector int, s string) {
	t.Helper()
	for i := 0; i < len(s); i += 64 {
		if e := d.Write(sector+i/64, s[i:min(i+64, len(s))]); e != api.OK {
			t.Fatal(sector, int(e))
		}
	}
}

// TestReadOther: a page that stands where another one should be is none, though its check is right.
func TestReadOther(t *testing.T) {
	d := disked(t, 14)
	for id := range 3 {
		for _, other := range []int{0, 1, 2, 3, 1023, math.MaxInt32, math.MaxInt} {
			s := put(t, api.Page{ID: other, Epoch: 1, Kind: api.KData, Payload: "other"})
			checkGet(t, s, filled(api.Page{ID: other, Epoch: 1, Kind: api.KData, Payload: "other"}), api.OK)
			lay(t, d, 2+4*id, s)
			if other == id {
				checkRead(t, d, id, filled(api.Page{ID: id, Epoch: 1, Kind: api.KData, Payload: "other"}), api.OK)
			} else {
				checkRead(t, d, id, api.Page{}, api.ErrCorrupt)
			}
		}
	}
	// One that begins a sector too late, or too early, is none either.
	d = disked(t, 14)
	for sector := range 10 {
		s := put(t, api.Page{ID: 1, Epoch: 1, Kind: api.KData, Payload: text(232, sector)})
		lay(t, d, sector, s)
		if sector != 6 {
			checkRead(t, d, 1, api.Page{}, api.ErrCorrupt)
		} else {
			checkRead(t, d, 1, api.Page{ID: 1, Epoch: 1, Kind: api.KData, Payload: text(232, sector)}, api.OK)
		}
	}
}

// TestReadMayNot: a page on the disk whose check is right, and whose numbers may not be.
func TestReadMayNot(t *testing.T) {
	d := disked(t, 6)
	for _, p := range []api.Page{{ID: -1}, {ID: math.MinInt}, {Epoch: -1}, {Epoch: 1<<40 + 1}, {Kind: 1 << 31}, {Kind: math.MaxUint32}} {
		lay(t, d, 2, laid(body(p)))
		checkRead(t, d, 0, api.Page{}, api.ErrCorrupt)
	}
	for _, p := range []api.Page{{}, {Epoch: 1 << 40}, {Kind: 1<<31 - 1}} {
		lay(t, d, 2, laid(body(p)))
		checkRead(t, d, 0, filled(p), api.OK)
	}
}

func TestReadTurned(t *testing.T) {
	p := filled(api.Page{ID: 1, Epoch: 8, Kind: api.KData, Payload: text(232, 4)})
	s := put(t, p)
	d := disked(t, 14)
	for at := range 256 {
		b := []byte(s)
		b[at] ^= 1 << (at % 8)
		lay(t, d, 6, string(b))
		checkRead(t, d, 1, api.Page{}, api.ErrCorrupt)
	}
	lay(t, d, 6, s)
	checkRead(t, d, 1, p, api.OK)
}

// TestWriteGoesDown: a disk goes down at one of a page's sectors: those ahead of it and this one are written, in order, and no more.
func TestWriteGoesDown(t *testing.T) {
	for n := 1; n <= 5; n++ {
		for id := range 3 {
			d := noisy(t, 15, n)
			before := image(t, d)
			p := api.Page{ID: id, Epoch: n, Kind: api.KTable, Payload: text(232, 100)}
			arm(t, d, n)
			want := api.ErrDown
			if n == 5 {
				want = api.OK
			}
			if e := Write(d, p); e != want {
				t.Errorf("down at %d: error %d", n, int(e))
			}
			written := min(n, 4)
			if d.Down() != (n < 5) || d.Calls() != written || d.Loose() != written {
				t.Errorf("down at %d: %v, %d calls, %d loose", n, d.Down(), d.Calls(), d.Loose())
			}
			if n < 5 {
				checkRead(t, d, id, api.Page{}, api.ErrDown)
			}
			crash(t, d, everything())
			if image(t, d) != over(before, 2+4*id, laid(body(p))[:64*written]) {
				t.Errorf("down at %d: other bytes", n)
			}
			got, f := wantGet(image(t, d)[64*(2+4*id):][:256])
			checkRead(t, d, id, got, f)
		}
	}
}

// TestGoesDownAndBack: a page that was whole and is written while the disk goes down is whole again, if nothing is kept.
func TestGoesDownAndBack(t *testing.T) {
	old := filled(api.Page{ID: 1, Epoch: 1, Kind: api.KData, Payload: text(232, 1)})
	now := filled(api.Page{ID: 1, Epoch: 2, Kind: api.KData, Payload: text(232, 2)})
	for n := 1; n <= 4; n++ {
		d := disked(t, 14)
		write(t, d, old)
		sync(t, d)
		arm(t, d, n)
		if e := Write(d, now); e != api.ErrDown {
			t.Error(int(e))
		}
		crash(t, d, nothing())
		checkRead(t, d, 1, old, api.OK)
		write(t, d, now)
		checkRead(t, d, 1, now, api.OK)
	}
}

// mixed is a page's bytes behind a crash, when another one was written over it.
func mixed(old, now string, c api.Crash) string {
	var b strings.Builder
	for j := range 4 {
		k := 0
		if j == c.Torn {
			k = c.Bytes
		} else if c.Keep[j] {
			k = 64
		}
		b.WriteString(now[64*j : 64*j+k])
		b.WriteString(old[64*j+k : 64*j+64])
	}
	return b.String()
}

// TestCrashes: whatever a crash keeps of a page that was written over another one, the old one is read, or the new one, or none.
func TestCrashes(t *testing.T) {
	old := filled(api.Page{ID: 1, Epoch: 1, Kind: api.KTable, Payload: text(232, 1)})
	now := filled(api.Page{ID: 1, Epoch: 2, Kind: api.KData, Payload: text(232, 101)})
	// Of pages that are mostly alike some sectors kept are as good as all.
	near := old
	near.Payload = old.Payload[:231] + "\x00"
	same := map[api.Page]int{}
	for _, p := range []api.Page{now, near, old} {
		for keep := range 16 {
			for torn := -1; torn < 4; torn++ {
				for _, k := range []int{0, 1, 3, 4, 12, 20, 24, 32, 63, 64} {
					c := api.Crash{Torn: torn, Bytes: k}
					for j := range 4 {
						c.Keep = append(c.Keep, keep>>j&1 == 1)
					}
					d := disked(t, 14)
					write(t, d, old)
					sync(t, d)
					write(t, d, p)
					crash(t, d, c)
					want, f := wantGet(mixed(put(t, old), put(t, p), c))
					checkRead(t, d, 1, want, f)
					if f == api.OK && want != old && want != p {
						t.Fatal("neither the old nor the new one:", want)
					}
					same[want]++
				}
			}
		}
	}
	if len(same) != 4 || same[api.Page{}] < 500 || same[now] < 10 || same[near] < 10 {
		t.Error("too little of something was tried")
	}
}

// TestSomeSectors: a page of which a crash has kept some sectors alone, where none was before, is none.
func TestSomeSectors(t *testing.T) {
	p := filled(api.Page{ID: 0, Epoch: 5, Kind: api.KData, Payload: text(232, 1)})
	for keep := range 16 {
		d := disked(t, 6)
		write(t, d, p)
		c := api.Crash{Torn: -1}
		for j := range 4 {
			c.Keep = append(c.Keep, keep>>j&1 == 1)
		}
		crash(t, d, c)
		if keep == 15 {
			checkRead(t, d, 0, p, api.OK)
		} else {
			checkRead(t, d, 0, api.Page{}, api.ErrCorrupt)
		}
	}
	for j := range 4 {
		for k := range 65 {
			d := disked(t, 6)
			write(t, d, p)
			crash(t, d, api.Crash{Keep: []bool{true, true, true, true}, Torn: j, Bytes: k})
			if k == 64 {
				checkRead(t, d, 0, p, api.OK)
			} else {
				checkRead(t, d, 0, api.Page{}, api.ErrCorrupt)
			}
		}
	}
}

// P11.3

func TestThereAndBack(t *testing.T) {
	for _, p := range goodPages() {
		checkGet(t, put(t, p), filled(p), api.OK)
	}
	r := rand.New(rand.NewSource(5))
	for n := range 233 {
		p := api.Page{ID: int(r.Uint64() >> 1), Epoch: r.Intn(1<<40 + 1), Kind: r.Intn(1 << 31), Payload: randomText(r, n)}
		checkGet(t, put(t, p), filled(p), api.OK)
	}
}

// TestBackAndThere: what is got, of whatever bytes, is put as these.
func TestBackAndThere(t *testing.T) {
	r := rand.New(rand.NewSource(6))
	many := 0
	for range 2000 {
		s := laid(body(api.Page{ID: anyNumber(r), Epoch: anyNumber(r), Kind: int(r.Uint32() >> r.Intn(32)), Payload: randomText(r, r.Intn(233))}))
		p, e := Get(s)
		if e != api.OK {
			continue
		}
		many++
		if len(p.Payload) != 232 {
			t.Error(len(p.Payload))
		}
		if again := put(t, p); again != s {
			t.Errorf("%x, not %x", again, s)
		}
	}
	if many < 100 {
		t.Error("too few pages:", many)
	}
}

// TestDiskThereAndBack: what was read of a disk is written as the very bytes.
func TestDiskThereAndBack(t *testing.T) {
	d, again := disked(t, 22), disked(t, 22)
	for id := range 5 {
		write(t, d, api.Page{ID: id, Epoch: id, Kind: api.KData, Payload: text(50*id, id)})
	}
	for id := range 5 {
		p, e := Read(d, id)
		if e != api.OK {
			t.Fatal(int(e))
		}
		write(t, again, p)
		checkRead(t, again, id, p, api.OK)
	}
	if image(t, d) != image(t, again) {
		t.Error("other bytes")
	}
}

// P11.4

// TestApart: whichever page is written, no other one changes, nor what is ahead of them, nor what is behind.
func TestApart(t *testing.T) {
	d := noisy(t, 25, 3)
	head, tail := image(t, d)[:128], image(t, d)[128+256*5:]
	var l []api.Page
	for id := range 5 {
		l = append(l, filled(api.Page{ID: id, Epoch: id, Kind: api.KTable, Payload: text(232, id)}))
		write(t, d, l[id])
	}
	for round := range 3 {
		for id := range 5 {
			l[id] = filled(api.Page{ID: id, Epoch: 10 + round, Kind: api.KData, Payload: text(232-round, 50*round+id)})
			write(t, d, l[id])
			for other, p := range l {
				checkRead(t, d, other, p, api.OK)
			}
		}
	}
	if s := image(t, d); s[:128] != head || s[128+256*5:] != tail {
		t.Error("what is no page has changed")
	}
}

// TestApartFromCorrupt: what is wrong with one page does not spread.
func TestApartFromCorrupt(t *testing.T) {
	p := filled(api.Page{ID: 1, Epoch: 1, Kind: api.KData, Payload: text(232, 0)})
	d := disked(t, 14)
	write(t, d, p)
	for sector := range 14 {
		if sector >= 6 && sector < 10 {
			continue
		}
		lay(t, d, sector, text(64, sector))
		checkRead(t, d, 1, p, api.OK)
	}
	for _, other := range []int{0, 2} {
		write(t, d, api.Page{ID: other})
		checkRead(t, d, 1, p, api.OK)
	}
}

func TestDisksApart(t *testing.T) {
	a, b := disked(t, 10), disked(t, 10)
	p := filled(api.Page{ID: 1, Epoch: 1, Kind: api.KData, Payload: "a"})
	q := filled(api.Page{ID: 1, Epoch: 2, Kind: api.KData, Payload: "b"})
	write(t, a, p)
	checkRead(t, b, 1, api.Page{}, api.ErrCorrupt)
	write(t, b, q)
	checkRead(t, a, 1, p, api.OK)
	checkRead(t, b, 1, q, api.OK)
}

// What is answered is no memory of the disk's.

func TestReadStays(t *testing.T) {
	old := filled(api.Page{ID: 0, Epoch: 1, Kind: api.KData, Payload: text(232, 0)})
	now := filled(api.Page{ID: 0, Epoch: 2, Kind: api.KData, Payload: text(232, 100)})
	d := disked(t, 6)
	write(t, d, old)
	sync(t, d)
	before, _ := Read(d, 0)
	write(t, d, now)
	during, _ := Read(d, 0)
	crash(t, d, nothing())
	after, _ := Read(d, 0)
	lay(t, d, 2, strings.Repeat("\xff", 256))
	sync(t, d)
	if before != old || during != now || after != old {
		t.Error(before, during, after)
	}
}

// TestAnsweredStays: of one text, and of one page, the same is answered again.
func TestAnsweredStays(t *testing.T) {
	p := api.Page{ID: 1, Epoch: 1, Kind: api.KData, Payload: "x"}
	s, d := put(t, p), disked(t, 10)
	first, _ := Get(s)
	write(t, d, p)
	write(t, d, api.Page{ID: 0, Payload: text(232, 0)})
	second, _ := Get(s)
	if first != second || put(t, p) != s || p != (api.Page{ID: 1, Epoch: 1, Kind: api.KData, Payload: "x"}) {
		t.Error(first, second, p)
	}
}

// All together

// tried counts what a random run has come to.
type tried struct{ written, down, beyond, refused, read, corrupt, crashed int }

func writeAny(t *testing.T, r *rand.Rand, d *disk.Disk, n *tried) {
	t.Helper()
	p := api.Page{ID: r.Intn(6) - r.Intn(2), Epoch: r.Intn(1 << 20), Kind: r.Intn(9) - r.Intn(2), Payload: text(r.Intn(236), r.Intn(256))}
	isDown := d.Down()
	calls, loose := d.Calls(), d.Loose()
	s, want := wantPut(p)
	if want == api.OK && p.ID >= (d.Sectors()-2)/4 {
		want = api.ErrRange
	}
	e := Write(d, p)
	switch {
	case want != api.OK:
		n.refused++
		if want == api.ErrRange {
			n.beyond++
		}
		if e != want || d.Calls() != calls || d.Loose() != loose {
			t.Fatal(int(e), int(want))
		}
	case isDown:
		if e != api.ErrDown || d.Calls() != calls {
			t.Fatal(int(e))
		}
	case d.Down():
		n.down++
		if e != api.ErrDown || d.Calls() <= calls || d.Calls() > calls+4 {
			t.Fatal(int(e), d.Calls()-calls)
		}
	default:
		n.written++
		if e != api.OK || d.Calls() != calls+4 {
			t.Fatal(int(e))
		}
		if got := image(t, d)[64*(2+4*p.ID):][:256]; got != s {
			t.Fatalf("%x, not %x", got, s)
		}
	}
}

func readAny(t *testing.T, r *rand.Rand, d *disk.Disk, n *tried) {
	t.Helper()
	id := r.Intn(6) - r.Intn(2)
	many := (d.Sectors() - 2) / 4
	switch {
	case id < 0 || id >= many:
		checkRead(t, d, id, api.Page{}, api.ErrRange)
	case d.Down():
		checkRead(t, d, id, api.Page{}, api.ErrDown)
	default:
		want, f := wantGet(image(t, d)[64*(2+4*id):][:256])
		if f == api.OK && want.ID != id {
			want, f = api.Page{}, api.ErrCorrupt
		}
		checkRead(t, d, id, want, f)
		if f == api.OK {
			n.read++
		} else {
			n.corrupt++
		}
	}
}

// copyPage lays a page's sectors over another one's: a page that stands where another one should.
func copyPage(r *rand.Rand, d *disk.Disk) {
	many := (d.Sectors() - 2) / 4
	from, to := r.Intn(many), r.Intn(many)
	for i := range 4 {
		if s, e := d.Read(2 + 4*from + i); e == api.OK {
			d.Write(2+4*to+i, s)
		}
	}
}

func crashAny(t *testing.T, r *rand.Rand, d *disk.Disk, n *tried) {
	t.Helper()
	c := api.Crash{Torn: r.Intn(8) - 4, Bytes: r.Intn(70)}
	for range r.Intn(20) {
		c.Keep = append(c.Keep, r.Intn(3) > 0)
	}
	crash(t, d, c)
	n.crashed++
}

// TestRandom does to disks what comes, and holds the pages against the disk's own sectors, step by step.
func TestRandom(t *testing.T) {
	r := rand.New(rand.NewSource(7))
	var n tried
	for range 100 {
		d := disked(t, 6+r.Intn(25))
		for range 150 {
			switch k := r.Intn(20); {
			case k < 8:
				writeAny(t, r, d, &n)
			case k < 15:
				readAny(t, r, d, &n)
			case k < 16:
				copyPage(r, d)
			case k < 17:
				d.Sync()
			case k < 18:
				d.Arm(1 + r.Intn(20))
			default:
				crashAny(t, r, d, &n)
			}
		}
	}
	if n.written < 100 || n.down < 100 || n.beyond < 100 || n.refused < 200 || n.read < 100 || n.corrupt < 100 || n.crashed < 100 {
		t.Errorf("too little of something was tried: %+v", n)
	}
}
