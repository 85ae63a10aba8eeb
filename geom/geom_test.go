package geom

import (
	"math"
	"testing"

	"drystone/api"
)

// least is the shape of which each number is the least one.
func least() Shape {
	return Shape{Members: 3, Block: 32, Segments: 4, Stripes: 2, Nv: 1, Logical: 1}
}

// greatest is the shape of which each number is the greatest one, Nv being 16*14 and Logical 61*15*14.
func greatest() Shape {
	return Shape{Members: 16, Block: 512, Segments: 64, Stripes: 16, Nv: 224, Logical: 12810}
}

// middle is a shape of numbers that all differ.
func middle() Shape {
	return Shape{Members: 5, Block: 40, Segments: 9, Stripes: 4, Nv: 7, Logical: 53}
}

// shapes makes valid ones: for every number of members, with few and many of everything else.
func shapes() []Shape {
	var list []Shape
	for members := api.MinMembers; members <= api.MaxMembers; members++ {
		for _, block := range []int{max(32, 15+5*(members-2)), 100, 512} {
			for _, segments := range []int{4, 5, 64} {
				for _, stripes := range []int{2, 3, 16} {
					most := (segments - 3) * (stripes - 1) * (members - 2)
					for _, logical := range []int{1, most} {
						list = append(list, Shape{members, block, segments, stripes, members - 2, logical})
					}
				}
			}
		}
	}
	return list
}

// mustBe checks a number that was returned.
func mustBe(t *testing.T, what string, s Shape, got, want int) {
	t.Helper()
	if got != want {
		t.Errorf("%+v: %s = %d, not %d", s, what, got, want)
	}
}

// mustCheck checks that a shape is valid, or that it is not.
func mustCheck(t *testing.T, s Shape, valid bool) {
	t.Helper()
	want := api.ErrArg
	if valid {
		want = api.OK
	}
	if got := s.Check(); got != want {
		t.Errorf("%+v: Check = %d, not %d", s, got, want)
	}
}

// fields are the setters of a shape's numbers, in the order of Check's description.
var fields = []struct {
	name string
	set  func(s *Shape, n int)
}{
	{"Members", func(s *Shape, n int) { s.Members = n }},
	{"Segments", func(s *Shape, n int) { s.Segments = n }},
	{"Stripes", func(s *Shape, n int) { s.Stripes = n }},
	{"Block", func(s *Shape, n int) { s.Block = n }},
	{"Nv", func(s *Shape, n int) { s.Nv = n }},
	{"Logical", func(s *Shape, n int) { s.Logical = n }},
}

// never are numbers that no field may have.
var never = []int{0, -1, -2, -3, math.MinInt, math.MinInt + 1, math.MinInt + 2, math.MaxInt, math.MaxInt - 1, math.MaxInt / 2, math.MaxInt32 + 1, 1 << 32, 1<<32 + 4, 1 << 62}

// P5.1: a shape is valid whose numbers are all the least, all the greatest, or between them.
func TestCheckOfValidShapes(t *testing.T) {
	mustCheck(t, least(), true)
	mustCheck(t, middle(), true)
	mustCheck(t, greatest(), true)
	for _, s := range shapes() {
		mustCheck(t, s, true)
	}
}

// P5.1: each number is valid from its least to its greatest one, the others being such that only it is asked about.
func TestCheckOfEachNumber(t *testing.T) {
	// With 10 members a note has 55 bytes; with 10 members and 8 stripes there are 8 to 64 records.
	wide := Shape{Members: 10, Block: 512, Segments: 10, Stripes: 8, Nv: 14, Logical: 1}
	tests := []struct {
		name        string
		base        Shape
		field       int
		least, most int
	}{
		{"Members: 1 record, of least", Shape{3, 512, 4, 2, 1, 1}, 0, 3, 3},
		{"Members: 14 records", Shape{3, 512, 64, 16, 14, 1}, 0, 3, 16},
		{"Members: 15 records in stripes", Shape{3, 512, 64, 16, 15, 1}, 0, 3, 16},
		{"Members: 17 records in stripes", Shape{3, 512, 64, 16, 17, 1}, 0, 4, 16},
		{"Members: blocks of 84 bytes", Shape{3, 84, 64, 16, 16, 1}, 0, 3, 15},
		{"Members: blocks of 85 bytes", Shape{3, 85, 64, 16, 16, 1}, 0, 3, 16},
		{"Members: 13 blocks in 1 segment of 2 stripes", Shape{3, 512, 4, 2, 14, 13}, 0, 15, 16},
		{"Segments", least(), 1, 4, 64},
		{"Segments: 64 of 64", Shape{3, 512, 64, 2, 1, 61}, 1, 64, 64},
		{"Segments: 60 of 64", Shape{3, 512, 64, 2, 1, 60}, 1, 63, 64},
		{"Stripes", least(), 2, 2, 16},
		{"Stripes: 15 of 16", Shape{3, 512, 4, 16, 1, 15}, 2, 16, 16},
		{"Stripes: 3 records", Shape{3, 512, 4, 16, 3, 1}, 2, 3, 16},
		{"Block", least(), 3, 32, 512},
		{"Block: 5 members, a note of 30 bytes", Shape{5, 512, 4, 2, 3, 1}, 3, 32, 512},
		{"Block: 6 members, a note of 35 bytes", Shape{6, 512, 4, 2, 4, 1}, 3, 35, 512},
		{"Block: 16 members, a note of 85 bytes", greatest(), 3, 85, 512},
		{"Block: 10 members, a note of 55 bytes", wide, 3, 55, 512},
		{"Nv", least(), 4, 1, 2},
		{"Nv: 10 members, 8 stripes", wide, 4, 8, 64},
		{"Nv: of the greatest", greatest(), 4, 14, 224},
		{"Logical", least(), 5, 1, 1},
		{"Logical: of the middle", middle(), 5, 1, 54},
		{"Logical: of the greatest", greatest(), 5, 1, 12810},
	}
	for _, test := range tests {
		field := fields[test.field]
		for n := -20; n <= max(test.most, 513)+20; n++ {
			s := test.base
			field.set(&s, n)
			if valid := s.Check() == api.OK; valid != (test.least <= n && n <= test.most) {
				t.Errorf("%s: with %d the Check of %+v = %d", test.name, n, s, s.Check())
			}
		}
	}
}

// P5.1: nought, numbers below it and the least and the greatest ints are never valid, neither alone nor beside others of them, whatever their products wrap round to.
func TestCheckOfExtremes(t *testing.T) {
	for _, base := range []Shape{least(), middle(), greatest()} {
		for i, one := range fields {
			for _, n := range never {
				s := base
				one.set(&s, n)
				mustCheck(t, s, false)
				for _, other := range fields[i+1:] {
					for _, m := range never {
						both := s
						other.set(&both, m)
						mustCheck(t, both, false)
					}
				}
			}
		}
	}
	for _, n := range never {
		mustCheck(t, Shape{n, n, n, n, n, n}, false)
	}
	mustCheck(t, Shape{}, false)
}

// P5.1: shapes are not valid of which several numbers are one too small or one too great, although their products might fit.
func TestCheckOfSeveralWrong(t *testing.T) {
	for _, s := range []Shape{
		{Members: 2, Block: 31, Segments: 3, Stripes: 1, Nv: 0, Logical: 0},
		{Members: 17, Block: 513, Segments: 65, Stripes: 17, Nv: 257, Logical: 15873},
		{Members: 17, Block: 90, Segments: 65, Stripes: 17, Nv: 15, Logical: 1},
		{Members: 1, Block: 32, Segments: 2, Stripes: 2, Nv: -1, Logical: 1}, // Most is 1
		{Members: 3, Block: 32, Segments: 2, Stripes: 0, Nv: 0, Logical: 1},  // Most is 1
		{Members: 1, Block: 32, Segments: 4, Stripes: 0, Nv: 0, Logical: 1},  // Most is 1
		{Members: 1, Block: 10, Segments: 4, Stripes: -2, Nv: 1, Logical: 1},
		{Members: 3, Block: 31, Segments: 4, Stripes: 2, Nv: 3, Logical: 1},
		{Members: 3, Block: 32, Segments: 4, Stripes: 2, Nv: 3, Logical: 2},
		{Members: 16, Block: 84, Segments: 64, Stripes: 16, Nv: 13, Logical: 12811},
	} {
		mustCheck(t, s, false)
	}
}

// P5.1: a block has at least as many bytes as a note.
func TestCheckOfBlocksBelowNote(t *testing.T) {
	for members := 6; members <= 16; members++ {
		s := Shape{Members: members, Segments: 4, Stripes: 2, Nv: members - 2, Logical: 1}
		for block := api.MinBlock; block < s.Note(); block++ {
			s.Block = block
			mustCheck(t, s, false)
		}
		s.Block = s.Note()
		mustCheck(t, s, true)
	}
}

// P5.1: there are from Slots to Stripes times Slots records, and at most MaxNv. (With valid Members and Stripes no product is greater than 224, so MaxNv is only passed where another number is wrong.)
func TestCheckOfRecords(t *testing.T) {
	for members := api.MinMembers; members <= api.MaxMembers; members++ {
		for stripes := api.MinStripes; stripes <= api.MaxStripes; stripes++ {
			slots := members - 2
			for nv := -1; nv <= api.MaxNv+2; nv++ {
				s := Shape{Members: members, Block: 85, Segments: 4, Stripes: stripes, Nv: nv, Logical: 1}
				mustCheck(t, s, slots <= nv && nv <= stripes*slots)
			}
		}
	}
	for _, nv := range []int{256, 257, 288, 289} {
		mustCheck(t, Shape{Members: 18, Block: 512, Segments: 4, Stripes: 16, Nv: nv, Logical: 1}, false)
		mustCheck(t, Shape{Members: 16, Block: 512, Segments: 4, Stripes: 21, Nv: nv, Logical: 1}, false)
		mustCheck(t, Shape{Members: 20, Block: 512, Segments: 4, Stripes: 20, Nv: nv, Logical: 1}, false)
	}
}

// P5.1: the device has from 1 to Most blocks.
func TestCheckOfLogical(t *testing.T) {
	for _, s := range shapes() {
		for _, n := range []int{0, -1, s.Most() + 1, -s.Most(), math.MinInt, math.MaxInt} {
			s.Logical = n
			mustCheck(t, s, false)
		}
		for _, n := range []int{1, (1 + s.Most()) / 2, s.Most()} {
			s.Logical = n
			mustCheck(t, s, true)
		}
	}
}

// P5.1: Slots, Note, Most and All; and P5.2: Image, Page, Pages and Sectors, with an Image that Page divides and with ones that it does not.
func TestNumbers(t *testing.T) {
	tests := []struct {
		s                                                     Shape
		slots, note, most, all, image, page, pages, allSector int
	}{
		{least(), 1, 20, 1, 8, 52, 17, 4, 17},
		{middle(), 3, 30, 54, 36, 305, 25, 13, 63},
		{greatest(), 14, 85, 12810, 1024, 51828, 497, 105, 1235},
		{Shape{3, 41, 4, 2, 2, 1}, 1, 20, 1, 8, 52, 26, 2, 13}, // 52 is 2*26
		{Shape{3, 40, 4, 2, 2, 1}, 1, 20, 1, 8, 52, 25, 3, 15}, // 52 is 2*25 + 2
		{Shape{3, 42, 4, 2, 2, 1}, 1, 20, 1, 8, 52, 27, 2, 13}, // 52 is 2*27 - 2
		{Shape{3, 67, 4, 2, 2, 1}, 1, 20, 1, 8, 52, 52, 1, 11}, // 52 is 1*52
		{Shape{3, 66, 4, 2, 2, 1}, 1, 20, 1, 8, 52, 51, 2, 13}, // 52 is 1*51 + 1
		{Shape{3, 68, 4, 2, 2, 1}, 1, 20, 1, 8, 52, 53, 1, 11}, // 52 is 1*53 - 1
		{Shape{3, 512, 4, 2, 2, 1}, 1, 20, 1, 8, 52, 497, 1, 11},
		{Shape{4, 32, 4, 3, 4, 4}, 2, 25, 4, 12, 64, 17, 4, 21},
		{Shape{4, 32, 5, 3, 6, 5}, 2, 25, 8, 15, 77, 17, 5, 26},
	}
	for _, test := range tests {
		s := test.s
		mustCheck(t, s, true)
		mustBe(t, "Slots", s, s.Slots(), test.slots)
		mustBe(t, "Note", s, s.Note(), test.note)
		mustBe(t, "Most", s, s.Most(), test.most)
		mustBe(t, "All", s, s.All(), test.all)
		mustBe(t, "Image", s, s.Image(), test.image)
		mustBe(t, "Page", s, s.Page(), test.page)
		mustBe(t, "Pages", s, s.Pages(), test.pages)
		mustBe(t, "Sectors", s, s.Sectors(), test.allSector)
	}
}

// P5.2: as many pages as an image needs, and no more; and the numbers from which the others follow, for many shapes.
func TestPages(t *testing.T) {
	for _, s := range shapes() {
		mustBe(t, "Slots", s, s.Slots(), s.Members-2)
		mustBe(t, "Note", s, s.Note(), 5*s.Members+5)
		mustBe(t, "All", s, s.All(), s.Segments*s.Stripes)
		mustBe(t, "Image", s, s.Image(), 12+9*s.Segments+4*s.Logical)
		mustBe(t, "Page", s, s.Page(), s.Block-15)
		if room := s.Pages() * s.Page(); room < s.Image() || room-s.Page() >= s.Image() {
			t.Errorf("%+v: %d pages of %d bytes for %d", s, s.Pages(), s.Page(), s.Image())
		}
		mustBe(t, "Sectors", s, s.Sectors(), 1+s.Pages()+s.Pages()+s.Segments*s.Stripes)
	}
}

// P5.2: the first and the last page of both regions, and the first and the last stripe.
func TestPageAtAndStripeAt(t *testing.T) {
	s := least() // 4 pages, 8 stripes
	mustBe(t, "PageAt(0, 0)", s, s.PageAt(0, 0), 1)
	mustBe(t, "PageAt(0, 3)", s, s.PageAt(0, 3), 4)
	mustBe(t, "PageAt(1, 0)", s, s.PageAt(1, 0), 5)
	mustBe(t, "PageAt(1, 3)", s, s.PageAt(1, 3), 8)
	mustBe(t, "StripeAt(0)", s, s.StripeAt(0), 9)
	mustBe(t, "StripeAt(7)", s, s.StripeAt(7), 16)
	s = greatest() // 105 pages, 1024 stripes
	mustBe(t, "PageAt(0, 0)", s, s.PageAt(0, 0), 1)
	mustBe(t, "PageAt(0, 104)", s, s.PageAt(0, 104), 105)
	mustBe(t, "PageAt(1, 0)", s, s.PageAt(1, 0), 106)
	mustBe(t, "PageAt(1, 104)", s, s.PageAt(1, 104), 210)
	mustBe(t, "StripeAt(0)", s, s.StripeAt(0), 211)
	mustBe(t, "StripeAt(1023)", s, s.StripeAt(1023), 1234)
}

// P5.2: the label, the pages of region 0, those of region 1 and the stripes are all sectors of a member, each exactly once and in this order.
func TestSectorsOfMember(t *testing.T) {
	for _, s := range shapes() {
		next := 1
		for region := range 2 {
			for i := range s.Pages() {
				if at := s.PageAt(region, i); at != next {
					t.Fatalf("%+v: PageAt(%d, %d) = %d, not %d", s, region, i, at, next)
				}
				next++
			}
		}
		for stripe := range s.All() {
			if at := s.StripeAt(stripe); at != next {
				t.Fatalf("%+v: StripeAt(%d) = %d, not %d", s, stripe, at, next)
			}
			next++
		}
		mustBe(t, "Sectors", s, s.Sectors(), next)
	}
}

// P5.3: with 3 members, stripe 1 has its parity on member 1, its note on member 2, and its one block on member 0.
func TestExample(t *testing.T) {
	s := least()
	mustBe(t, "Parity(1)", s, s.Parity(1), 1)
	mustBe(t, "Member(1, 0)", s, s.Member(1, 0), 2)
	mustBe(t, "Member(1, 1)", s, s.Member(1, 1), 0)
}

// P5.3: the parity and the chunks of stripes of 5 members, one by one.
func TestMembersOfStripes(t *testing.T) {
	s := middle()
	for stripe, want := range [][]int{
		{0, 1, 2, 3, 4},
		{1, 2, 3, 4, 0},
		{2, 3, 4, 0, 1},
		{3, 4, 0, 1, 2},
		{4, 0, 1, 2, 3},
		{0, 1, 2, 3, 4},
		{1, 2, 3, 4, 0},
	} {
		mustBe(t, "Parity", s, s.Parity(stripe), want[0])
		for chunk, member := range want[1:] {
			mustBe(t, "Member", s, s.Member(stripe, chunk), member)
		}
	}
}

// P5.3: for every number of members, the parity, the note and the blocks of a stripe lie each on a member of its own, one after the other, and the parity comes to every member in turn.
func TestEachOnMemberOfItsOwn(t *testing.T) {
	for _, s := range shapes() {
		turn := 0
		for stripe := range s.All() {
			if s.Parity(stripe) != turn {
				t.Fatalf("%+v: Parity(%d) = %d, not %d", s, stripe, s.Parity(stripe), turn)
			}
			at := turn
			for chunk := range 1 + s.Slots() {
				if at++; at == s.Members {
					at = 0
				}
				if s.Member(stripe, chunk) != at {
					t.Fatalf("%+v: Member(%d, %d) = %d, not %d", s, stripe, chunk, s.Member(stripe, chunk), at)
				}
			}
			if turn++; turn == s.Members {
				turn = 0
			}
		}
	}
}

// P5.3: the segment of the first and of the last stripe of each segment, and of those between.
func TestSegment(t *testing.T) {
	s := middle() // 9 segments of 4
	mustBe(t, "Segment(0)", s, s.Segment(0), 0)
	mustBe(t, "Segment(3)", s, s.Segment(3), 0)
	mustBe(t, "Segment(4)", s, s.Segment(4), 1)
	mustBe(t, "Segment(7)", s, s.Segment(7), 1)
	mustBe(t, "Segment(32)", s, s.Segment(32), 8)
	mustBe(t, "Segment(35)", s, s.Segment(35), 8)
	for _, s := range shapes() {
		for segment := range s.Segments {
			for i := range s.Stripes {
				if got := s.Segment(segment*s.Stripes + i); got != segment {
					t.Fatalf("%+v: Segment(%d) = %d", s, segment*s.Stripes+i, got)
				}
			}
		}
	}
}

// P5.3: places are numbered stripe by stripe and slot by slot, and Spot finds the stripe and the chunk again, which is one more than the slot.
func TestPlaceAndSpot(t *testing.T) {
	s := middle() // 3 slots
	mustBe(t, "Place(0, 0)", s, s.Place(0, 0), 0)
	mustBe(t, "Place(0, 2)", s, s.Place(0, 2), 2)
	mustBe(t, "Place(4, 1)", s, s.Place(4, 1), 13)
	mustBe(t, "Place(35, 2)", s, s.Place(35, 2), 107)
	if got := s.Spot(13); got != (Spot{Stripe: 4, Chunk: 2}) {
		t.Errorf("Spot(13) = %+v", got)
	}
	for _, s := range shapes() {
		next := 0
		for stripe := range s.All() {
			for slot := range s.Slots() {
				if place := s.Place(stripe, slot); place != next {
					t.Fatalf("%+v: Place(%d, %d) = %d, not %d", s, stripe, slot, place, next)
				}
				if got := s.Spot(next); got != (Spot{Stripe: stripe, Chunk: slot + 1}) {
					t.Fatalf("%+v: Spot(%d) = %+v, not stripe %d, slot %d", s, next, got, stripe, slot)
				}
				next++
			}
		}
	}
}

// P1: no call panics, neither for stripes, chunks, slots, regions and places that do not exist, nor for a shape that is not valid (15 bytes a block and 2 members among them, which would divide by 0).
func TestNoPanic(t *testing.T) {
	numbers := append([]int{1, 2, 3, 15, 32}, never...)
	list := []Shape{least(), middle(), greatest(), {Members: 2, Block: 15}}
	for _, n := range numbers {
		list = append(list, Shape{n, n, n, n, n, n})
	}
	for _, s := range list {
		s.Check()
		s.Slots()
		s.Note()
		s.Most()
		s.All()
		s.Image()
		s.Page()
		s.Pages()
		s.Sectors()
		for _, n := range numbers {
			s.StripeAt(n)
			s.Parity(n)
			s.Segment(n)
			s.Spot(n)
			for _, m := range numbers {
				s.PageAt(n, m)
				s.Member(n, m)
				s.Place(n, m)
			}
		}
	}
}
