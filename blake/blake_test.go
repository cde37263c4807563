package blake_test

import (
	"bytes"
	"errors"
	"slices"
	"strings"
	"testing"

	"bayou/api"
	"bayou/blake"
)

// rise are so many bytes that rise from one on, and begin anew at 251, so that no two blocks beside one another are alike.
func rise(from, n int) []byte {
	b := make([]byte, n)
	for i := range b {
		b[i] = byte((from + i) % 251)
	}
	return b
}

// keyOf is a key of so many bytes.
func keyOf(n int) []byte { return rise(100, n) }

// begin is a new state that must be.
func begin(t *testing.T, key []byte) *blake.State {
	t.Helper()
	s, err := blake.New(key)
	if err != nil || s == nil {
		t.Fatalf("New of a key of %d bytes: %v, %v", len(key), s, err)
	}
	return s
}

// keyed is a sum under a key that must be.
func keyed(t *testing.T, key, b []byte) api.Hash {
	t.Helper()
	h, err := blake.Keyed(key, b)
	if err != nil {
		t.Fatalf("Keyed of a key of %d bytes: %v", len(key), err)
	}
	return h
}

// wantLong holds an error against ErrLong.
func wantLong(t *testing.T, what string, err error) {
	t.Helper()
	var got api.Errno
	if !errors.As(err, &got) || got != api.ErrLong {
		t.Errorf("%s: %v, want %v", what, err, api.ErrLong)
	}
}

// TestSum: BL1, sums under no key, as another program of BLAKE2s tells them.
func TestSum(t *testing.T) {
	for _, c := range []struct {
		n    int
		want string
	}{
		{0, "69217a3079908094e11121d042354a7c1f55b6482ca1a51e1b250dfd1ed0eef9"},
		{1, "e34d74dbaf4ff4c6abd871cc220451d2ea2648846c7757fbaac82fe51ad64bea"},
		{2, "ddad9ab15dac4549ba42f49d262496bef6c0bae1dd342a8808f8ea267c6e210c"},
		{3, "e8f91c6ef232a041452ab0e149070cdd7dd1769e75b3a5921be37876c45c9900"},
		{4, "0cc70e00348b86ba2944d0c32038b25c55584f90df2304f55fa332af5fb01e20"},
		{63, "e57cb79487dd57902432b250733813bd96a84efce59f650fac26e6696aefafc3"},
		{64, "56f34e8b96557e90c1f24b52d0c89d51086acf1b00f634cf1dde9233b8eaaa3e"},
		{65, "1b53ee94aaf34e4b159d48de352c7f0661d0a40edff95a0b1639b4090e974472"},
		{127, "f18417b39d617ab1c18fdf91ebd0fc6d5516bb34cf39364037bce81fa04cecb1"},
		{128, "1fa877de67259d19863a2a34bcc6962a2b25fcbf5cbecd7ede8f1fa36688a796"},
		{129, "5bd169e67c82c2c2e98ef7008bdf261f2ddf30b1c00f9e7f275bb3e8a28dc9a2"},
		{191, "d120b5ef6d57ebf06eaf96bc933c967b16cbe6e2bf00741c30aa1c54ba64801f"},
		{192, "58d212ad6f58aef0f80116b441e57f6195bfef26b61463edec1183cdb04fe76d"},
		{193, "b8836f51d1e29bdfdba325565360268b8fad627473edecef7eaefee837c74003"},
		{256, "6b58271b163ae846666204a78e4dc65ab390d510ab1091422cca43577252b016"},
		{1000, "1c067a5e746fb0f6734efac9a8cdb0e11061f0077f255184365c690115392501"},
		{1<<16 - 1, "103ee39c432c88c0fbffad3c85b0c30b75efb7e8c2309f2fb5de9c7a6968e3c9"},
		{1 << 16, "b274d4c4980021755013dbeb61d225268f6238998ba08c25df654277fb4cbff0"},
		{api.MaxBytes, "627d07f94f87954340a1215d9be99e5c7263ab96e569369613d2811f9ae71b64"},
	} {
		if got := blake.Text(blake.Sum(rise(0, c.n))); got != c.want {
			t.Errorf("Sum of %d bytes: %s, want %s", c.n, got, c.want)
		}
	}
	if got, want := blake.Text(blake.Sum([]byte("abc"))), "508c5e8c327c14e2e1a72ba34eeb452f37458b209ed63a294d999b4c86675982"; got != want {
		t.Errorf("Sum of abc: %s, want %s", got, want)
	}
	if blake.Sum(nil) != blake.Sum([]byte{}) {
		t.Error("Sum of nil is not Sum of no bytes")
	}
}

// TestSumFilling: BL1, the filling of the last block is not taken for bytes.
func TestSumFilling(t *testing.T) {
	seen := map[api.Hash]int{}
	for n := range 130 {
		h := blake.Sum(make([]byte, n))
		if m, ok := seen[h]; ok {
			t.Errorf("%d and %d noughts have one sum", m, n)
		}
		seen[h] = n
	}
}

// TestKeyed: BL1, sums under a key, as another program of BLAKE2s tells them.
func TestKeyed(t *testing.T) {
	for _, c := range []struct {
		k, n int
		want string
	}{
		{0, 0, "69217a3079908094e11121d042354a7c1f55b6482ca1a51e1b250dfd1ed0eef9"},
		{0, 64, "56f34e8b96557e90c1f24b52d0c89d51086acf1b00f634cf1dde9233b8eaaa3e"},
		{1, 0, "d0146bc8217bff6cb0252b5698b26e1f3ad1b6dee82366c2fb554278f5d5b068"},
		{1, 1, "167bf73e8ae0b28895c5d9d897d20e9e26b5bb4dc30b8d572d87d913dbb08da7"},
		{1, 63, "e42b526889f06c73c9bd3bab229837c3f8cdccffdb71551465f416bec3caba95"},
		{1, 64, "9f04f11e0a9e66ab80342d1cf8f94ef0ef6879e553f55d03ea590033f5d4aca9"},
		{1, 65, "7b3c41312be63a075347014b0e9c18b0005c921a25487d0eb7df7facfeb1f5da"},
		{2, 0, "308308b366d6e268898dfb5c604f93a40a41df4403c0e5d17ba925933d3e7dc4"},
		{2, 128, "c75d1c6869dc24777d8979b082729b9caa349d7ad5da65e9b4991d0af18d1333"},
		{31, 0, "cca2e7ce18b56f12d96cf5a78d133c00e6ecd982ff8271f93d338ee267c0f5ac"},
		{31, 64, "7bd3e5a3f8667d3d4d147e0e0793ab11f8ab80822d190901e50bbfb18a3397ef"},
		{32, 0, "ebe350c1677a08a1bb3e5e0851009fd266a53ad4be785697a4c3a104198afba8"},
		{32, 1, "56c8494b71578e40fdc61abaac2739242e7c70c316f65147f04db120a1d185c6"},
		{32, 63, "7c842b554f811f5688dbd1a2a467c287f552e778cead4bae52dd77a473cb1a2e"},
		{32, 64, "926765b95660c1eb99da82e59d31b621ec220e8238bac9a7b24272042140a7e5"},
		{32, 65, "d723092cc439c4e3fecb428025516fc29eb9a019ea3102e2a498562e053f08b5"},
		{32, 128, "40255f447f50401cca21af49cdb35b3692de26611a1a5222ae70edfe52655445"},
		{32, 129, "e44faa52997fc1e685ffb224da6c8f64afa5432d2ee4c1ac123e1eaff8dc32b5"},
	} {
		if got := blake.Text(keyed(t, keyOf(c.k), rise(0, c.n))); got != c.want {
			t.Errorf("Keyed of a key of %d, %d bytes: %s, want %s", c.k, c.n, got, c.want)
		}
	}
}

// TestKeyedAll: BL1, all keys that may be, each with all lengths up to four blocks and a bit; the sum of their sums is as another program of BLAKE2s tells it.
func TestKeyedAll(t *testing.T) {
	var all []byte
	for k := range 33 {
		for n := range 261 {
			h := keyed(t, keyOf(k), rise(0, n))
			all = append(all, h[:]...)
			if k == 0 && h != blake.Sum(rise(0, n)) {
				t.Errorf("%d bytes: under a key of no bytes the sum is not the one under none", n)
			}
		}
	}
	if got, want := blake.Text(blake.Sum(all)), "4d66c88d2ca69e4e0aa3145d8d812bf2114ba85b01f3a3440575654652593d0c"; got != want {
		t.Errorf("the sum of all sums: %s, want %s", got, want)
	}
}

// TestKeyedFilling: BL1, a key is not one with noughts behind it.
func TestKeyedFilling(t *testing.T) {
	seen := map[api.Hash]int{}
	for k := range 33 {
		h := keyed(t, make([]byte, k), []byte("a"))
		if m, ok := seen[h]; ok {
			t.Errorf("keys of %d and %d noughts make one sum", m, k)
		}
		seen[h] = k
	}
}

// TestKeyTooLong: BL1 and BL2, a key of more than 32 bytes, and nothing beside its error.
func TestKeyTooLong(t *testing.T) {
	for _, k := range []int{33, 34, 63, 64, 65, 256, 257, api.MaxBytes} {
		h, err := blake.Keyed(make([]byte, k), []byte("abc"))
		wantLong(t, "Keyed", err)
		if h != (api.Hash{}) {
			t.Errorf("Keyed of a key of %d: a sum beside an error", k)
		}
		s, err := blake.New(make([]byte, k))
		wantLong(t, "New", err)
		if s != nil {
			t.Errorf("New of a key of %d: a state beside an error", k)
		}
	}
}

// TestText: BL1, all bytes there are, in small letters.
func TestText(t *testing.T) {
	const digits = "0123456789abcdef"
	for from := 0; from < 256; from += 32 {
		var h api.Hash
		var want strings.Builder
		for i := range h {
			x := from + i
			h[i] = byte(x)
			want.WriteByte(digits[x/16])
			want.WriteByte(digits[x%16])
		}
		if got := blake.Text(h); got != want.String() {
			t.Errorf("Text of bytes from %d on: %s, want %s", from, got, want.String())
		}
	}
	if got := blake.Text(api.Hash{}); got != strings.Repeat("0", 64) {
		t.Errorf("Text of noughts: %s", got)
	}
}

// TestStateCuts: BL2 and BL3, bytes in three parts, cut at all pairs of places, with and without Sum asked between.
func TestStateCuts(t *testing.T) {
	b := rise(0, 200)
	for _, k := range []int{0, 1, 32} {
		want := keyed(t, keyOf(k), b)
		for i := 0; i <= len(b); i++ {
			for j := i; j <= len(b); j++ {
				s := begin(t, keyOf(k))
				s.Write(b[:i])
				if (i+j)%2 == 0 {
					s.Sum()
				}
				s.Write(b[i:j])
				s.Write(b[j:])
				if got := s.Sum(); got != want {
					t.Fatalf("key of %d, cut at %d and %d: %s, want %s", k, i, j, blake.Text(got), blake.Text(want))
				}
			}
		}
	}
}

// TestStateSumBetween: BL2, Sum may be asked again, and Write goes on behind it; Len counts what was written, the key not.
func TestStateSumBetween(t *testing.T) {
	b := rise(0, 400)
	for _, k := range []int{0, 1, 31, 32} {
		for _, wide := range []int{1, 2, 3, 7, 63, 64, 65, 128, 129} {
			s := begin(t, keyOf(k))
			for at := 0; ; at = min(at+wide, len(b)) {
				want := keyed(t, keyOf(k), b[:at])
				if got := s.Sum(); got != want {
					t.Errorf("key of %d, parts of %d, at %d: %s, want %s", k, wide, at, blake.Text(got), blake.Text(want))
				}
				if got := s.Sum(); got != want {
					t.Errorf("key of %d, parts of %d, at %d: Sum asked again: %s", k, wide, at, blake.Text(got))
				}
				if got := s.Len(); got != at {
					t.Errorf("key of %d, parts of %d: Len %d, want %d", k, wide, got, at)
				}
				if at == len(b) {
					break
				}
				s.Write(b[at:min(at+wide, len(b))])
			}
		}
	}
}

// TestStateNothing: BL2, writing no bytes changes nothing, not even where a block has just been filled.
func TestStateNothing(t *testing.T) {
	for _, k := range []int{0, 32} {
		for _, n := range []int{0, 1, 63, 64, 65, 128} {
			s := begin(t, keyOf(k))
			s.Write(nil)
			s.Write(rise(0, n))
			s.Write([]byte{})
			s.Write(nil)
			if got, want := s.Sum(), keyed(t, keyOf(k), rise(0, n)); got != want || s.Len() != n {
				t.Errorf("key of %d, %d bytes and none behind them: %s of %d, want %s", k, n, blake.Text(got), s.Len(), blake.Text(want))
			}
		}
	}
}

// TestStateKeys: BL2, New takes all keys as Keyed does.
func TestStateKeys(t *testing.T) {
	for k := range 33 {
		for _, n := range []int{0, 1, 64, 65} {
			s := begin(t, keyOf(k))
			s.Write(rise(0, n))
			if got, want := s.Sum(), keyed(t, keyOf(k), rise(0, n)); got != want {
				t.Errorf("key of %d, %d bytes: %s, want %s", k, n, blake.Text(got), blake.Text(want))
			}
		}
	}
}

// TestStateNil: BL2, a nil State.
func TestStateNil(t *testing.T) {
	var s *blake.State
	s.Write(nil)
	s.Write([]byte("abc"))
	if s.Sum() != (api.Hash{}) {
		t.Errorf("Sum of a nil State: %s", blake.Text(s.Sum()))
	}
	if s.Len() != 0 {
		t.Errorf("Len of a nil State: %d", s.Len())
	}
}

// TestMemory: rule 3, keys and bytes are neither changed nor kept.
func TestMemory(t *testing.T) {
	for _, n := range []int{1, 63, 64, 65, 130} {
		key, b := keyOf(32), rise(0, n)
		want := keyed(t, key, b)
		s := begin(t, key)
		s.Write(b)
		blake.Sum(b)
		s.Sum()
		if !bytes.Equal(key, keyOf(32)) || !bytes.Equal(b, rise(0, n)) {
			t.Errorf("%d bytes: an argument was changed", n)
		}
		clear(key)
		clear(b)
		if got := s.Sum(); got != want {
			t.Errorf("%d bytes: an argument was kept", n)
		}
	}
}

// TestSpareRoom: rule 3, bytes behind an argument's end are neither taken in nor changed.
func TestSpareRoom(t *testing.T) {
	all := rise(0, 300)
	key, b := all[:5], all[100:165]
	if got, want := keyed(t, key, b), keyed(t, slices.Clone(key), slices.Clone(b)); got != want {
		t.Errorf("%s, want %s", blake.Text(got), blake.Text(want))
	}
	if !bytes.Equal(all, rise(0, 300)) {
		t.Error("bytes behind an argument were changed")
	}
}

// TestAlone: rule 4, what is done to one state is not seen in another.
func TestAlone(t *testing.T) {
	one, two := begin(t, keyOf(3)), begin(t, keyOf(3))
	if one == two {
		t.Fatal("two calls of New answer one state")
	}
	one.Write(rise(0, 70))
	two.Write(rise(9, 200))
	one.Write(rise(70, 70))
	if one.Sum() != keyed(t, keyOf(3), rise(0, 140)) || two.Sum() != keyed(t, keyOf(3), rise(9, 200)) {
		t.Error("one state's bytes are in the other's sum")
	}
	if one.Len() != 140 || two.Len() != 200 {
		t.Errorf("Len %d and %d, want 140 and 200", one.Len(), two.Len())
	}
}

// FuzzCuts: BL3, bytes cut by what cuts tells, under a key.
func FuzzCuts(f *testing.F) {
	f.Add([]byte(nil), []byte(nil), []byte(nil))
	f.Add([]byte("key"), rise(0, 64), []byte{0, 64, 0})
	f.Add(keyOf(32), rise(0, 300), []byte{1, 63, 65, 64, 100})
	f.Add(keyOf(33), rise(0, 3), []byte{1})
	f.Fuzz(func(t *testing.T, key, b, cuts []byte) {
		s, err := blake.New(key)
		if len(key) > 32 {
			wantLong(t, "New", err)
			return
		}
		if err != nil {
			t.Fatal(err)
		}
		at := 0
		for _, c := range cuts {
			to := min(at+int(c), len(b))
			s.Write(b[at:to])
			at = to
			if s.Sum() != keyed(t, key, b[:at]) || s.Len() != at {
				t.Fatalf("not the sum of %d bytes", at)
			}
		}
		s.Write(b[at:])
		if s.Sum() != keyed(t, key, b) {
			t.Fatal("not the sum of all bytes")
		}
	})
}
