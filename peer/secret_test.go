package peer_test

import (
	"encoding/hex"
	"fmt"
	"math"
	"testing"

	"bayou/api"
	"bayou/peer"
)

// Secret and Lock: sums that another program's BLAKE2s told.
func TestSecret(t *testing.T) {
	for _, x := range []struct {
		seed         string
		n            int
		secret, lock string
	}{
		{"", 0, "e34d74dbaf4ff4c6abd871cc220451d2ea2648846c7757fbaac82fe51ad64bea", "4f3ac8d1e747d2f46da2fef81f51cad8be2664acec4b30926083d11b7c811c6c"},
		{"a", 0, "ccf69953dbc8db243e506bb559f512cadc5c78ff8414a68891d06e9c22be6a4a", "e64ebf1bcb19d61e033d543b291edd8f91a11f1a9cbfbc3c27fca6ceeecbe94a"},
		{"a", 1, "a58166f320395ba5ed7d4da449f1cf569ed16175e1fb9368c12bccc498b629d3", "bbbe6221547bd2cb650b4e7271f80855fc2978d5851c40269222ec5abafdca10"},
		{"b", 0, "92f3dcd74bc8252a4dc1702ee6f7071cddda0b225b3f53412a7428ae14e74efe", "4ccd74a11bd4772437444a3aec8dc667969ebd70a914d5470b6c28b7d462ca59"},
		{"one", 300, "b6797781d6f6805b292f657341a1d4678768ff285639866d4170d2f6b98d9c0d", "d8b87d6d023f6afca628c3deea0ff74578f2ca0ab3e392fae505eedb341923f6"},
		{"one", -1, "ef8efe2eb4d09792e475734545c51a34c5990e397c2b13992f83b89869a51060", "1b903110a5a3bf76326a8a34f2c0b239f58b61e7aa8e46f5e1cb667798e6db9f"},
		{"\x00\xff seed", maxHeight, "db152ae8cbd21d26a05786583c99ce13481c9bc94d96f733f1c0feba5f2b4317", "182d9eb49d71b12700fa3723a0fc62a5e3b17208429edca54361c01b9295f3ea"},
		{long(64), math.MaxInt, "67e36cc3d37a8bc871309ec2e614d479c781d449d9d001eef3cfc18e33794b12", "558a95cb43622d3bc5cfbbf658d95535be864054df123ffb5ef945cbc5ec8371"},
		{"", math.MinInt, "3e8aa23df5c4eef8048fa37d65a0d7045ed1cb01b8a26ae766088df178f10953", "9f0e3b221c9da211d4ff07c0a1aab4912d92ae54d1a17c33b5c1c82aaeefdd03"},
	} {
		what := fmt.Sprintf("%q, %d", x.seed, x.n)
		if got := hex.EncodeToString(peer.Secret(x.seed, x.n)); got != x.secret {
			t.Errorf("Secret of %s: %s, want %s", what, got, x.secret)
		}
		lock := peer.Lock(x.seed, x.n)
		if got := hex.EncodeToString(lock[:]); got != x.lock {
			t.Errorf("Lock of %s: %s, want %s", what, got, x.lock)
		}
	}
}

// Secret and Lock of many seeds, also longer ones than a side may have, and numbers of all lengths, by the chapter's words; no two of them are the same.
func TestSecretPlain(t *testing.T) {
	seen := map[api.Hash]string{}
	for _, seed := range []string{"", "\x00", "s", "seed", "seed ", long(63), long(64), long(65), long(1 << 12)} {
		numbers := []int{0, 1, -1, math.MinInt, math.MaxInt}
		for bits := 1; bits < 63; bits++ {
			numbers = append(numbers, 1<<bits, -1<<bits, 1<<bits+1)
		}
		for _, n := range numbers {
			what := fmt.Sprintf("%d bytes, %d", len(seed), n)
			secret, lock := peer.Secret(seed, n), peer.Lock(seed, n)
			if string(secret) != string(secretOf(seed, n)) || lock != lockOf(seed, n) {
				t.Errorf("%s: %x, %x", what, secret, lock)
			}
			for _, h := range []api.Hash{api.Hash(secret), lock} {
				if other, there := seen[h]; there {
					t.Errorf("%s: as %s", what, other)
				}
				seen[h] = what
			}
		}
	}
}
