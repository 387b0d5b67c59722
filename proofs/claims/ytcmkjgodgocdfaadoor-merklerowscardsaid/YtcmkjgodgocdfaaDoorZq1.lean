/- Texts put together, in build order: Bv, Sp, A1, A2, A3, A4, A5, A6, A7, A8, R1, R2. -/
import Derived.WalkKit
import Derived.Test.YtcmkjgodgocdfaaDoorProg
import Derived.WalkSpells
import Derived.WalkLawsBesides
import Derived.BigQuiet
import Derived.Deep.QuietTactic
import Derived.Deep.RegionHeld3
import Derived.RangeFuncNested
import Derived.RangeFuncBound
import Derived.RangeFuncCalls
import Derived.RangeFuncLeaves
import Derived.OwnWalkIn
import Derived.TacticsInMore
import Derived.LoopNIn
import Derived.LoopIn
import Derived.Deep.Quiet
import Derived.OrdersIn
/- Plain arithmetic of words: what the walk writes of a 32-bit word is a BitVec's own operation. -/
namespace Go.Proofs.YtcmkjgodgocdfaaDoor
open Go.RowKit

abbrev Wd := BitVec 32
/-- A word as the number that a slot holds. -/
def wv (x : Wd) : Int := (x.toNat : Int)
/-- A byte as the number that a slot holds. -/
def bv (x : UInt8) : Int := (x.toNat : Int)

theorem wv_nonneg (x : Wd) : 0 ≤ wv x := Int.natCast_nonneg _
theorem wv_lt (x : Wd) : wv x < 4294967296 := by unfold wv; have := x.isLt; omega
theorem wv_ofInt (x : Wd) : BitVec.ofInt 32 (wv x) = x := by
  apply BitVec.eq_of_toNat_eq
  unfold wv
  rw [BitVec.toNat_ofInt]; have := x.isLt; omega
theorem wv_wrap (x : Wd) : IntKind.u32.wrap (wv x) = wv x := by
  rw [IntKind.wrap_u32]; unfold wv; have := x.isLt; omega
theorem wm_add (x y : Wd) : (wv x + wv y) % 4294967296 = wv (x + y) := by
  unfold wv; rw [BitVec.toNat_add]; omega
theorem wr_add (x y : Wd) : IntKind.u32.wrap (wv x + wv y) = wv (x + y) := by
  rw [IntKind.wrap_u32]; exact wm_add x y
theorem wm_shl (x : Wd) (n : Nat) : (wv x * 2 ^ n) % 4294967296 = wv (x <<< n) := by
  unfold wv; rw [BitVec.toNat_shiftLeft, Nat.shiftLeft_eq]; simp
theorem wm_shr (x : Wd) (n : Nat) : wv x / 2 ^ n = wv (x >>> n) := by
  unfold wv; rw [BitVec.toNat_ushiftRight, Nat.shiftRight_eq_div_pow]; simp
theorem wm_and (x y : Wd) : bits .and .u32 (wv x) (wv y) = wv (x &&& y) := by
  show IntKind.u32.wrap _ = _
  simp only [IntKind.bits, wv_ofInt]; exact wv_wrap _
theorem wm_xor (x y : Wd) : bits .xor .u32 (wv x) (wv y) = wv (x ^^^ y) := by
  show IntKind.u32.wrap _ = _
  simp only [IntKind.bits, wv_ofInt]; exact wv_wrap _
theorem wm_or (x y : Wd) : bits .or .u32 (wv x) (wv y) = wv (x ||| y) := by
  show IntKind.u32.wrap _ = _
  simp only [IntKind.bits, wv_ofInt]; exact wv_wrap _
theorem wm_not (x : Wd) : bits .xor .u32 4294967295 (wv x) = wv (~~~x) := by
  show IntKind.u32.wrap _ = _
  simp only [IntKind.bits, wv_ofInt]
  rw [← BitVec.allOnes_xor]
  exact wv_wrap (BitVec.allOnes 32 ^^^ x)
theorem wr_not (x : Wd) : bits .xor .u32 (IntKind.max .u32) (wv x) = wv (~~~x) := wm_not x
theorem wi_not (x : Wd) : bits .xor .u32 (if IntKind.u32.signed = true then -1 else IntKind.u32.max) (wv x) = wv (~~~x) := wm_not x
/-- A byte as a word; a word's lowest byte; a 64-bit word's. -/
def zx (b : UInt8) : Wd := BitVec.ofNat 32 b.toNat
def lo (x : Wd) : UInt8 := UInt8.ofNat x.toNat
theorem bv_nonneg (b : UInt8) : 0 ≤ bv b := Int.natCast_nonneg _
theorem bv_lt (b : UInt8) : bv b < 256 := by unfold bv; have := b.toNat_lt; omega
theorem bm_zx (b : UInt8) : bv b % 4294967296 = wv (zx b) := by
  unfold bv wv zx; rw [BitVec.toNat_ofNat]; have := b.toNat_lt; omega
theorem bm_lo (x : Wd) : wv x % 256 = bv (lo x) := by
  unfold bv wv lo; rw [UInt8.toNat_ofNat']; omega
theorem wm_shl8 (x : Wd) : (wv x * (256 : Int)) % 4294967296 = wv (x <<< 8) := by have := wm_shl x 8; simpa using this
theorem wm_shr8 (x : Wd) : wv x / (256 : Int) = wv (x >>> 8) := by have := wm_shr x 8; simpa using this
theorem wv_zero : (0 : Int) = wv 0 := rfl
/-- A number from 0 on, as a slot holds it. -/
def nv (m : Nat) : Int := (m : Int)
theorem nv_nonneg (m : Nat) : 0 ≤ nv m := Int.natCast_nonneg _
theorem nm_shr8 (m : Nat) : nv m / (256 : Int) = nv (m / 256) := by unfold nv; omega
theorem nm_lo (m : Nat) : nv m % 256 = bv (UInt8.ofNat m) := by
  unfold bv nv; rw [UInt8.toNat_ofNat']; omega
theorem wd_rot (x : Wd) (n : Nat) (h : n < 32) : (x <<< (32 - n)) ||| (x >>> n) = x.rotateRight n := by
  rw [BitVec.rotateRight_def, Nat.mod_eq_of_lt h, BitVec.or_comm]
theorem rot_cnt (n : Nat) (h0 : 0 < n) (h : n < 32) : bits .and .u64 (IntKind.u64.wrap (-(n : Int))) 31 = ((32 - n : Nat) : Int) := by
  have : ∀ m : Fin 32, 0 < m.val → bits .and .u64 (IntKind.u64.wrap (-(m.val : Int))) 31 = ((32 - m.val : Nat) : Int) := by decide
  exact this ⟨n, h⟩ h0
theorem rot_two (n : Nat) (h : n < 32) : IntKind.u64.wrap (32 - ((32 - n : Nat) : Int)) = (n : Int) := by
  rw [IntKind.wrap_u64]; omega
end Go.Proofs.YtcmkjgodgocdfaaDoor
/- What the document says of SHA-256, as plain functions of words and bytes; nothing of the program stands here. -/
namespace Go.Proofs.YtcmkjgodgocdfaaDoor

/-- What 'read' makes of bytes, eight bits each. -/
def rd (l : List UInt8) : Wd := l.foldl (fun n b => (n <<< 8) ||| zx b) 0
theorem rd_snoc (l : List UInt8) (b : UInt8) : rd (l ++ [b]) = (rd l <<< 8) ||| zx b := by simp [rd]
theorem take_snoc' (l : List UInt8) (k : Nat) (h : k < l.length) : l.take (k + 1) = l.take k ++ [l[k]?.getD 0] := by
  rw [List.take_succ_eq_append_getElem h]; simp [h]


def s0 (x : Wd) : Wd := x.rotateRight 7 ^^^ x.rotateRight 18 ^^^ x >>> 3
def s1 (x : Wd) : Wd := x.rotateRight 17 ^^^ x.rotateRight 19 ^^^ x >>> 10
def S0 (x : Wd) : Wd := x.rotateRight 2 ^^^ x.rotateRight 13 ^^^ x.rotateRight 22
def S1 (x : Wd) : Wd := x.rotateRight 6 ^^^ x.rotateRight 11 ^^^ x.rotateRight 25

/-- Four bytes of a block, from 4 * k on. -/
def four (bs : List UInt8) (k : Nat) : List UInt8 := (bs.drop (4 * k)).take 4
def wnext (bs : List UInt8) (l : List Wd) (k : Nat) : Wd :=
  if k < 16 then rd (four bs k) else l[k - 16]?.getD 0 + s0 (l[k - 15]?.getD 0) + l[k - 7]?.getD 0 + s1 (l[k - 2]?.getD 0)
/-- The first k words that come of a block. -/
def wds (bs : List UInt8) : Nat → List Wd
  | 0 => []
  | k + 1 => wds bs k ++ [wnext bs (wds bs k) k]
theorem wds_length (bs : List UInt8) : ∀ k, (wds bs k).length = k
  | 0 => rfl
  | k + 1 => by simp [wds, wds_length bs k]
/-- Word j of a block. -/
def Wat (bs : List UInt8) (j : Nat) : Wd := (wds bs 64)[j]?.getD 0
theorem wds_prefix (bs : List UInt8) (k : Nat) : ∀ n, (wds bs (k + n)).take k = wds bs k
  | 0 => by rw [List.take_of_length_le]; · rfl
            · rw [wds_length]; omega
  | n + 1 => by
    show (wds bs (k + n) ++ [wnext bs (wds bs (k + n)) (k + n)]).take k = _
    rw [List.take_append_of_le_length (by rw [wds_length]; omega)]
    exact wds_prefix bs k n
theorem wds_get (bs : List UInt8) (j k : Nat) (h : j < k) (hk : k ≤ 64) : (wds bs k)[j]?.getD 0 = Wat bs j := by
  unfold Wat
  have := wds_prefix bs k (64 - k)
  rw [show k + (64 - k) = 64 by omega] at this
  rw [← this, List.getElem?_take_of_lt h]
theorem Wat_next (bs : List UInt8) (k : Nat) (h : k < 64) : Wat bs k = wnext bs (wds bs k) k := by
  rw [← wds_get bs k (k + 1) (by omega) (by omega)]
  show ((wds bs k ++ [wnext bs (wds bs k) k])[k]?).getD 0 = _
  rw [List.getElem?_append_right (by rw [wds_length]; omega), wds_length]
  simp
theorem Wat_lo (bs : List UInt8) (k : Nat) (h : k < 16) : Wat bs k = rd (four bs k) := by
  rw [Wat_next bs k (by omega), wnext, if_pos h]
theorem Wat_hi (bs : List UInt8) (k : Nat) (h0 : 16 ≤ k) (h : k < 64) : Wat bs k = Wat bs (k - 16) + s0 (Wat bs (k - 15)) + Wat bs (k - 7) + s1 (Wat bs (k - 2)) := by
  rw [Wat_next bs k h, wnext, if_neg (by omega), wds_get bs _ k (by omega) (by omega), wds_get bs _ k (by omega) (by omega), wds_get bs _ k (by omega) (by omega), wds_get bs _ k (by omega) (by omega)]

structure St where
  a : Wd
  b : Wd
  c : Wd
  d : Wd
  e : Wd
  f : Wd
  g : Wd
  h : Wd

def cubeList : List Nat := [1116352408, 1899447441, 3049323471, 3921009573, 961987163, 1508970993, 2453635748, 2870763221, 3624381080, 310598401, 607225278, 1426881987, 1925078388, 2162078206, 2614888103, 3248222580, 3835390401, 4022224774, 264347078, 604807628, 770255983, 1249150122, 1555081692, 1996064986, 2554220882, 2821834349, 2952996808, 3210313671, 3336571891, 3584528711, 113926993, 338241895, 666307205, 773529912, 1294757372, 1396182291, 1695183700, 1986661051, 2177026350, 2456956037, 2730485921, 2820302411, 3259730800, 3345764771, 3516065817, 3600352804, 4094571909, 275423344, 430227734, 506948616, 659060556, 883997877, 958139571, 1322822218, 1537002063, 1747873779, 1955562222, 2024104815, 2227730452, 2361852424, 2428436474, 2756734187, 3204031479, 3329325298]
def cubeW (k : Nat) : Wd := BitVec.ofNat 32 (cubeList[k]?.getD 0)
def squareList : List Nat := [1779033703, 3144134277, 1013904242, 2773480762, 1359893119, 2600822924, 528734635, 1541459225]
def squareW (k : Nat) : Wd := BitVec.ofNat 32 (squareList[k]?.getD 0)
def rndT (s : St) (k w : Wd) : Wd := s.h + S1 s.e + ((s.e &&& s.f) ^^^ (~~~s.e &&& s.g)) + k + w
def rndU (s : St) : Wd := S0 s.a + ((s.a &&& s.b) ^^^ (s.a &&& s.c) ^^^ (s.b &&& s.c))
def rnd (s : St) (k w : Wd) : St := ⟨rndT s k w + rndU s, s.a, s.b, s.c, s.d + rndT s k w, s.e, s.f, s.g⟩
def rnds (s : St) (bs : List UInt8) : Nat → St
  | 0 => s
  | k + 1 => rnd (rnds s bs k) (cubeW k) (Wat bs k)
/-- The state behind a block. -/
def comp (s : St) (bs : List UInt8) : St :=
  let r := rnds s bs 64
  ⟨s.a + r.a, s.b + r.b, s.c + r.c, s.d + r.d, s.e + r.e, s.f + r.f, s.g + r.g, s.h + r.h⟩
def St.get (s : St) : Nat → Wd
  | 0 => s.a | 1 => s.b | 2 => s.c | 3 => s.d | 4 => s.e | 5 => s.f | 6 => s.g | _ => s.h
def St.cells (s : St) : List Value := (List.range 8).map fun i => .int .u32 (wv (s.get i))

/-- Byte j of a state's digest. -/
def digB (s : St) (j : Nat) : UInt8 := lo (s.get (j / 4) >>> (8 * (3 - j % 4)))
def digL (s : St) : List UInt8 := (List.range 32).map (digB s)
theorem digL_length (s : St) : (digL s).length = 32 := by simp [digL]
theorem digL_get (s : St) (j : Nat) (h : j < 32) : (digL s)[j]? = some (digB s j) := by simp [digL, h]
/-- The state behind the first n blocks of bytes. -/
def stN (m : List UInt8) : Nat → St
  | 0 => ⟨squareW 0, squareW 1, squareW 2, squareW 3, squareW 4, squareW 5, squareW 6, squareW 7⟩
  | n + 1 => comp (stN m n) ((m.drop (64 * n)).take 64)
theorem stN_append (m l : List UInt8) : ∀ n, 64 * n ≤ m.length → stN (m ++ l) n = stN m n
  | 0, _ => rfl
  | n + 1, h => by
    show comp (stN (m ++ l) n) _ = comp (stN m n) _
    rw [stN_append m l n (by omega), List.drop_append_of_le_length (by omega), List.take_append_of_le_length (by simp; omega)]
/-- What is laid behind so many bytes. -/
def tailL (n : Nat) : List UInt8 := 128 :: (List.replicate ((119 - n % 64) % 64) 0 ++ (List.range 8).map fun j => UInt8.ofNat (n * 8 / 256 ^ (7 - j)))
theorem tailL_length (n : Nat) : (tailL n).length = 9 + (119 - n % 64) % 64 := by simp [tailL]; omega
theorem tail_whole (n : Nat) : (n + (tailL n).length) % 64 = 0 := by rw [tailL_length]; omega
/-- The digest of bytes. -/
def shaL (m : List UInt8) : List UInt8 := digL (stN (m ++ tailL m.length) ((m ++ tailL m.length).length / 64))
end Go.Proofs.YtcmkjgodgocdfaaDoor
/- The words' turns: math/bits.RotateLeft32, sha.turn, the closures of turned and shifted. -/
namespace Go.Proofs.YtcmkjgodgocdfaaDoor
open Go.RowKit
attribute [local go_sem] wm_add wm_shl wm_shr wm_and wm_xor wm_or wv_nonneg bm_zx bm_lo wm_shl8 wm_shr8
set_option maxHeartbeats 400000 in
theorem rot_any (x : Wd) (n : Nat) (h0 : 0 < n) (h : n < 32) (w : World) :
    Calls Tryd.prog 76 #[.int .u32 (wv x), .int .i64 (-(n : Int))] w fun e w' => e = .returned (.int .u32 (wv (x.rotateRight n))) ∧ w' = w := by
  have e1 := rot_cnt n h0 h
  have e2 := rot_two n h
  have e3 : min (32 - n) 32 = 32 - n := by omega
  have e4 : min n 32 = n := by omega
  go_enter Tryd.func76, Tryd.ntmps76
  go_wp2
  go_ret
  rw [← wd_rot x n h]
  exact ⟨rfl, rfl⟩

set_option maxHeartbeats 400000 in
theorem turn_any (x : Wd) (k : Int) (w : World) (h0 : 0 < k) (h : k < 32) :
    Calls Tryd.prog 73 #[.int .u32 (wv x), .int .i64 k] w fun e w' => e = .returned (.int .u32 (wv (x.rotateRight k.toNat))) ∧ w' = w := by
  obtain ⟨n, rfl⟩ := Int.eq_ofNat_of_zero_le (Int.le_of_lt h0)
  have e1 : wrap64 (-(n : Int)) = -(n : Int) := by unfold wrap64; omega
  go_enter Tryd.func73, Tryd.ntmps73
  go_wp2_with fail
  refine (rot_any x n (by omega) (by omega) _).mono ?_
  rintro e w' ⟨rfl, rfl⟩
  go_wp2
  go_ret
  exact ⟨rfl, rfl⟩

set_option maxHeartbeats 400000 in
theorem turned1_any (x : Wd) (a1 a2 a3 : Addr) (n1 n2 n3 : Int) (w : World)
    (h10 : 0 < n1) (h11 : n1 < 32) (h20 : 0 < n2) (h21 : n2 < 32) (h30 : 0 < n3) (h31 : n3 < 32)
    (c1 : w.cell? a1 = some (.int .i64 n1)) (c2 : w.cell? a2 = some (.int .i64 n2)) (c3 : w.cell? a3 = some (.int .i64 n3)) :
    Calls Tryd.prog 72 #[.int .u32 (wv x), .pointer (some a1), .pointer (some a2), .pointer (some a3)] w fun e w' =>
      e = .returned (.int .u32 (wv (x.rotateRight n1.toNat ^^^ x.rotateRight n2.toNat ^^^ x.rotateRight n3.toNat))) ∧ ∃ k, w' = w.drewN k := by
  go_enter Tryd.func72, Tryd.ntmps72
  go_wp2
  go_quiet ((go_at_call 73; refine Calls.quiet_of_same (turn_any _ _ _ ?_ ?_) <;> assumption))
  go_wp2
  go_ret
  exact ⟨rfl, _, rfl⟩

set_option maxHeartbeats 400000 in
theorem shifted1_any (x : Wd) (a1 a2 a3 : Addr) (n1 n2 n3 : Int) (w : World)
    (h10 : 0 < n1) (h11 : n1 < 32) (h20 : 0 < n2) (h21 : n2 < 32) (h30 : 0 ≤ n3) (h31 : n3 < 32)
    (c1 : w.cell? a1 = some (.int .i64 n1)) (c2 : w.cell? a2 = some (.int .i64 n2)) (c3 : w.cell? a3 = some (.int .i64 n3)) :
    Calls Tryd.prog 77 #[.int .u32 (wv x), .pointer (some a1), .pointer (some a2), .pointer (some a3)] w fun e w' =>
      e = .returned (.int .u32 (wv (x.rotateRight n1.toNat ^^^ x.rotateRight n2.toNat ^^^ x >>> n3.toNat))) ∧ ∃ k, w' = w.drewN k := by
  have e4 : min n3.toNat 32 = n3.toNat := by omega
  go_enter Tryd.func77, Tryd.ntmps77
  go_wp2
  go_quiet ((go_at_call 73; refine Calls.quiet_of_same (turn_any _ _ _ ?_ ?_) <;> assumption))
  go_wp2
  go_ret
  exact ⟨rfl, _, rfl⟩

set_option maxHeartbeats 400000 in
theorem turned_any (n1 n2 n3 : Int) (w : World) :
    Calls Tryd.prog 67 #[.int .i64 n1, .int .i64 n2, .int .i64 n3] w fun e w' =>
      e = .returned (.func (.func 72) #[] #[.pointer (some ⟨w.heap.size, 0, none⟩), .pointer (some ⟨w.heap.size + 1, 0, none⟩), .pointer (some ⟨w.heap.size + 2, 0, none⟩)]) ∧
        w' = ((w.alloc (.cells #[.int .i64 n1] 3)).alloc (.cells #[.int .i64 n2] 3)).alloc (.cells #[.int .i64 n3] 3) := by
  go_enter Tryd.func67, Tryd.ntmps67
  go_wp2
  go_ret
  exact ⟨rfl, rfl⟩

set_option maxHeartbeats 400000 in
theorem shifted_any (n1 n2 n3 : Int) (w : World) :
    Calls Tryd.prog 74 #[.int .i64 n1, .int .i64 n2, .int .i64 n3] w fun e w' =>
      e = .returned (.func (.func 77) #[] #[.pointer (some ⟨w.heap.size, 0, none⟩), .pointer (some ⟨w.heap.size + 1, 0, none⟩), .pointer (some ⟨w.heap.size + 2, 0, none⟩)]) ∧
        w' = ((w.alloc (.cells #[.int .i64 n1] 3)).alloc (.cells #[.int .i64 n2] 3)).alloc (.cells #[.int .i64 n3] 3) := by
  go_enter Tryd.func74, Tryd.ntmps74
  go_wp2
  go_ret
  exact ⟨rfl, rfl⟩

set_option maxHeartbeats 400000 in
theorem read32_any (l : List UInt8) (b o cap : Nat) (w : World) (hl : l.length ≤ 64)
    (hc : ∀ i, i < l.length → w.cell? ⟨b, o + i, none⟩ = some (.int .u8 (bv (l[i]?.getD 0)))) :
    Calls Tryd.prog 75 #[.slice (some ⟨b, o, none⟩) l.length cap, .int .i64 8] w fun e w' => e = .returned (.int .u32 (wv (rd l))) ∧ w' = w := by
  go_enter Tryd.func75, Tryd.ntmps75
  go_wp2
  go_loop [5, 10] (fun n i => ∃ k : Nat, k ≤ l.length ∧ i = .int .i64 k ∧ n = .int .u32 (wv (rd (l.take k)))) (fun _ i => l.length - (intOf i).toNat)
  case atStart => exact ⟨0, Nat.zero_le _, rfl, rfl⟩
  case round =>
    obtain ⟨k, hk, rfl, rfl⟩ := hrel
    by_cases hlt : k < l.length
    · have hcell := hc k hlt
      go_wp2
      go_round
      case rel => exact ⟨k + 1, by omega, by go_num, by rw [take_snoc' l k hlt, rd_snoc, ← wm_or, ← wm_shl8]; simp [hlt]⟩
      case measure => simp [intOf]; omega
    · go_wp2
      go_ret
      rw [List.take_of_length_le (by omega)]
      exact ⟨rfl, rfl⟩

/-- What 'read' makes of two halves of a byte. -/
theorem nib (a b : UInt8) (ha : a.toNat < 16) (hb : b.toNat < 16) : bits .or .u8 (bv a * 16 % 256) (bv b) = bv (a * 16 + b) := by
  have key : ∀ x y : Fin 16, bits .or .u8 ((x.val : Int) * 16 % 256) (y.val : Int) = ((x.val * 16 + y.val : Nat) : Int) := by decide
  have h1 := key ⟨a.toNat, ha⟩ ⟨b.toNat, hb⟩
  have h2 : (a * 16 + b).toNat = a.toNat * 16 + b.toNat := by
    rw [UInt8.toNat_add, UInt8.toNat_mul]; simp; omega
  unfold bv
  rw [h2]; exact h1

end Go.Proofs.YtcmkjgodgocdfaaDoor
/- Memory: one block that is written, all others kept; 'lay' fills a slice with a number's bytes. -/
namespace Go.Proofs.YtcmkjgodgocdfaaDoor
open Go.RowKit

/-- But for block b, what was there is as it was; no block has gone. -/
structure Ex (b : Nat) (w w' : World) : Prop where
  os : w'.os = w.os
  tape : w'.tape = w.tape
  output : w'.output = w.output
  size : w.heap.size ≤ w'.heap.size
  block : ∀ k, k < w.heap.size → k ≠ b → w'.heap[k]? = w.heap[k]?

theorem Ex.refl (b : Nat) (w : World) : Ex b w w := ⟨rfl, rfl, rfl, Nat.le_refl _, fun _ _ _ => rfl⟩
theorem Ex.trans {b : Nat} {x y z : World} (h : Ex b x y) (k : Ex b y z) : Ex b x z :=
  ⟨k.os.trans h.os, k.tape.trans h.tape, k.output.trans h.output, Nat.le_trans h.size k.size, fun i hi hb => (k.block i (Nat.lt_of_lt_of_le hi h.size) hb).trans (h.block i hi hb)⟩
theorem Ex.below {b : Nat} {x y : World} (h : Below x.heap.size x y) : Ex b x y := ⟨h.os, h.tape, h.output, h.size, fun i hi _ => h.block i hi⟩
theorem Ex.set (b : Nat) (w : World) (p : Nat) (v : Value) : Ex b w (w.setCell ⟨b, p, none⟩ v) :=
  ⟨rfl, rfl, rfl, by simp [World.setCell], fun i _ hb => heap_setCell_other w ⟨b, p, none⟩ i v hb⟩
theorem Ex.drewN (b : Nat) (w : World) (k : Nat) : Ex b w (w.drewN k) := ⟨rfl, rfl, rfl, Nat.le_refl _, fun _ _ _ => rfl⟩
/-- Where the block itself is new, all that was there is as it was. -/
theorem Ex.to_below {b B : Nat} {x y z : World} (h0 : Below B x y) (hB : B ≤ y.heap.size) (h : Ex b y z) (hb : B ≤ b) : Below B x z :=
  h0.trans ⟨h.os, h.tape, h.output, h.size, fun i hi => h.block i (by omega) (by omega)⟩
/-- A block of cells, none of them frozen. -/
def Has (w : World) (b : Nat) (cs : Array Value) (t : TypeId) : Prop := w.heap[b]? = some (.cells cs t (0, 0))
theorem Has.cell {w : World} {b t : Nat} {cs : Array Value} (h : Has w b cs t) (j : Nat) : w.cell? ⟨b, j, none⟩ = cs[j]? := cell_of_row w b j cs t (0, 0) h
theorem Has.free {w : World} {b t : Nat} {cs : Array Value} (h : Has w b cs t) (j : Nat) : w.frozen? ⟨b, j, none⟩ = false := frozen_of_row w b j cs t h
theorem Has.set {w : World} {b t : Nat} {cs : Array Value} (h : Has w b cs t) (p : Nat) (v : Value) : Has (w.setCell ⟨b, p, none⟩ v) b (cs.setIfInBounds p v) t := heap_setCell_same w b p cs t v h
theorem Has.lt {w : World} {b t : Nat} {cs : Array Value} (h : Has w b cs t) : b < w.heap.size := (Array.getElem?_eq_some_iff.1 h).1
theorem Has.ex {w w' : World} {b c t : Nat} {cs : Array Value} (h : Has w b cs t) (k : Ex c w w') (hb : b ≠ c) : Has w' b cs t := (k.block b h.lt hb).trans h
theorem Has.below {w w' : World} {b t B : Nat} {cs : Array Value} (h : Has w b cs t) (k : Below B w w') (hb : b < B) : Has w' b cs t := (k.block b hb).trans h

/-- The cells from o on, n of them, hold what f says; all others are as they were. -/
structure Upd (cs cs' : Array Value) (o n : Nat) (f : Nat → Value) : Prop where
  size : cs'.size = cs.size
  at_ : ∀ j, cs'[j]? = if o ≤ j ∧ j < o + n then some (f (j - o)) else cs[j]?
theorem Upd.zero (cs : Array Value) (o : Nat) (f : Nat → Value) : Upd cs cs o 0 f := ⟨rfl, fun j => by rw [if_neg (by omega)]⟩
theorem Upd.next {cs cs' : Array Value} {o n : Nat} {f : Nat → Value} (h : Upd cs cs' o n f) (hs : o + n < cs.size) (v : Value) (hv : v = f n) : Upd cs (cs'.setIfInBounds (o + n) v) o (n + 1) f := by
  subst hv
  refine ⟨by simp [h.size], fun j => ?_⟩
  rw [Array.getElem?_setIfInBounds, h.at_ j, h.size]
  by_cases e : o + n = j
  · subst e
    rw [if_pos rfl, if_pos hs, if_pos (by omega), show o + n - o = n by omega]
  · rw [if_neg e]
    by_cases e2 : o ≤ j ∧ j < o + n
    · rw [if_pos e2, if_pos (by omega)]
    · rw [if_neg e2, if_neg (by omega)]
/-- The last k of n, from behind. -/
def UpdB (cs cs' : Array Value) (o n k : Nat) (f : Nat → Value) : Prop := Upd cs cs' (o + (n - k)) k (fun j => f (n - k + j))
theorem UpdB.prev {cs cs' : Array Value} {o n k : Nat} {f : Nat → Value} (h : UpdB cs cs' o n k f) (hk : k < n) (hs : o + n ≤ cs.size) (v : Value) (hv : v = f (n - 1 - k)) : UpdB cs (cs'.setIfInBounds (o + (n - 1 - k)) v) o n (k + 1) f := by
  subst hv
  refine ⟨by simp [h.size], fun j => ?_⟩
  rw [Array.getElem?_setIfInBounds, h.at_ j, h.size]
  by_cases e : o + (n - 1 - k) = j
  · subst e
    rw [if_pos rfl, if_pos (by omega), if_pos (by omega)]
    congr 2; omega
  · rw [if_neg e]
    by_cases e2 : o + (n - k) ≤ j ∧ j < o + (n - k) + k
    · rw [if_pos e2, if_pos (by omega)]
      congr 2; omega
    · rw [if_neg e2, if_neg (by omega)]
theorem UpdB.all {cs cs' : Array Value} {o n : Nat} {f : Nat → Value} (h : UpdB cs cs' o n n f) : Upd cs cs' o n f := by
  refine ⟨h.size, fun j => ?_⟩
  rw [h.at_ j]
  simp
theorem Upd.ex {cs cs' : Array Value} {o n : Nat} {f : Nat → Value} (h : Upd cs cs' o n f) (j : Nat) (hj : j < cs.size) : ∃ v, cs'[j]? = some v := by
  have : j < cs'.size := by rw [h.size]; exact hj
  exact ⟨_, Array.getElem?_eq_getElem this⟩

attribute [local go_sem] wm_add wm_shl wm_shr wm_and wm_xor wm_or wv_nonneg bm_zx bm_lo wm_shl8 wm_shr8
/-- A word's bytes, the highest ahead. -/
def be32 (x : Wd) (n j : Nat) : Value := .int .u8 (bv (lo (x >>> (8 * (n - 1 - j)))))
set_option maxHeartbeats 400000 in
theorem lay32_any (x : Wd) (n b o cap t : Nat) (cs : Array Value) (w : World) (hn : n ≤ 8) (hsz : o + n ≤ cs.size) (hh : Has w b cs t) :
    Calls Tryd.prog 70 #[.slice (some ⟨b, o, none⟩) n cap, .int .u32 (wv x)] w fun e w' => e = .returned (.tuple #[]) ∧ Ex b w w' ∧ w.heap.size = w'.heap.size ∧
      ∃ cs', Has w' b cs' t ∧ Upd cs cs' o n (be32 x n) := by
  go_enter Tryd.func70, Tryd.ntmps70
  go_wp2
  go_loopw [1, 7] (fun m i wr => ∃ k : Nat, k ≤ n ∧ i = .int .i64 k ∧ m = .int .u32 (wv (x >>> (8 * k))) ∧ Ex b w wr ∧ Hid (w.heap.size = wr.heap.size) ∧
      ∃ cs', Has wr b cs' t ∧ UpdB cs cs' o n k (be32 x n)) (fun _ i _ => n - (intOf i).toNat)
  case atStart => exact ⟨0, Nat.zero_le _, rfl, rfl, Ex.refl _ _, rfl, cs, hh, Upd.zero _ _ _⟩
  case round =>
    obtain ⟨k, hk, rfl, rfl, hex, hs, cs', hh', hcs⟩ := hrel
    by_cases hlt : k < n
    · obtain ⟨v0, hv0⟩ := Upd.ex hcs (o + (n - 1 - k)) (by omega)
      have hcell := (hh'.cell (o + (n - 1 - k))).trans hv0
      have hfree := hh'.free (o + (n - 1 - k))
      clear hv0
      go_wp2
      go_roundw
      case rel => exact ⟨k + 1, by omega, by go_num, by rw [← BitVec.shiftRight_add]; congr 3, hex.trans (Ex.set _ _ _ _), by show _ = _; rw [hs.out]; simp [World.setCell], _, hh'.set _ _, hcs.prev hlt hsz _ (by unfold be32; congr 6; omega)⟩
      case measure => simp [intOf]; omega
    · go_wp2
      go_end0
      have e : k = n := by omega
      subst e
      exact ⟨rfl, hex, hs, cs', hh', UpdB.all hcs⟩

/-- A number's bytes, the highest ahead. -/
def be64 (m n j : Nat) : Value := .int .u8 (bv (UInt8.ofNat (m / 256 ^ (n - 1 - j))))
attribute [local go_sem] nv_nonneg nm_shr8 nm_lo
set_option maxHeartbeats 400000 in
theorem lay64_any (m n b o cap t : Nat) (cs : Array Value) (w : World) (hn : n ≤ 8) (hsz : o + n ≤ cs.size) (hh : Has w b cs t) :
    Calls Tryd.prog 69 #[.slice (some ⟨b, o, none⟩) n cap, .int .u64 (nv m)] w fun e w' => e = .returned (.tuple #[]) ∧ Ex b w w' ∧ w.heap.size = w'.heap.size ∧
      ∃ cs', Has w' b cs' t ∧ Upd cs cs' o n (be64 m n) := by
  go_enter Tryd.func69, Tryd.ntmps69
  go_wp2
  go_loopw [1, 7] (fun v i wr => ∃ k : Nat, k ≤ n ∧ i = .int .i64 k ∧ v = .int .u64 (nv (m / 256 ^ k)) ∧ Ex b w wr ∧ Hid (w.heap.size = wr.heap.size) ∧
      ∃ cs', Has wr b cs' t ∧ UpdB cs cs' o n k (be64 m n)) (fun _ i _ => n - (intOf i).toNat)
  case atStart => exact ⟨0, Nat.zero_le _, rfl, by simp, Ex.refl _ _, rfl, cs, hh, Upd.zero _ _ _⟩
  case round =>
    obtain ⟨k, hk, rfl, rfl, hex, hs, cs', hh', hcs⟩ := hrel
    by_cases hlt : k < n
    · obtain ⟨v0, hv0⟩ := Upd.ex hcs (o + (n - 1 - k)) (by omega)
      have hcell := (hh'.cell (o + (n - 1 - k))).trans hv0
      have hfree := hh'.free (o + (n - 1 - k))
      clear hv0
      go_wp2
      go_roundw
      case rel => exact ⟨k + 1, by omega, by go_num, by rw [Nat.div_div_eq_div_mul, ← Nat.pow_succ], hex.trans (Ex.set _ _ _ _), by show _ = _; rw [hs.out]; simp [World.setCell], _, hh'.set _ _, hcs.prev hlt hsz _ (by unfold be64; congr 6; omega)⟩
      case measure => simp [intOf]; omega
    · go_wp2
      go_end0
      have e : k = n := by omega
      subst e
      exact ⟨rfl, hex, hs, cs', hh', UpdB.all hcs⟩
end Go.Proofs.YtcmkjgodgocdfaaDoor
/- sha.spread: the 64 words of a block. -/
namespace Go.Proofs.YtcmkjgodgocdfaaDoor
open Go.RowKit
attribute [local go_sem] wr_add wm_add wm_shl wm_shr wm_and wm_xor wm_or wv_nonneg bm_zx bm_lo wm_shl8 wm_shr8

/-- A block's bytes as cells. -/
def byteCells (bs : List UInt8) : Array Value := (bs.map fun b => Value.int .u8 (bv b)).toArray
theorem byteCells_size (bs : List UInt8) : (byteCells bs).size = bs.length := by simp [byteCells]
theorem byteCells_at (bs : List UInt8) (j : Nat) (h : j < bs.length) : (byteCells bs)[j]? = some (.int .u8 (bv (bs[j]?.getD 0))) := by
  simp [byteCells, h]
/-- The words of a block as cells. -/
def wordAt (bs : List UInt8) (j : Nat) : Value := .int .u32 (wv (Wat bs j))

theorem read4_any (l : List UInt8) (b o cap : Nat) (w : World) (hl : l.length = 4)
    (hc : ∀ i, i < 4 → w.cell? ⟨b, o + i, none⟩ = some (.int .u8 (bv (l[i]?.getD 0)))) :
    Calls Tryd.prog 75 #[.slice (some ⟨b, o, none⟩) 4 cap, .int .i64 8] w fun e w' => e = .returned (.int .u32 (wv (rd l))) ∧ w' = w := by
  have := read32_any l b o cap w (by omega) (by rw [hl]; exact hc)
  rw [hl] at this
  exact this
theorem four_len (bs : List UInt8) (hb : bs.length = 64) (k : Nat) (h : k < 16) : (four bs k).length = 4 := by
  simp [four, hb]; omega
theorem four_at (bs : List UInt8) (k i : Nat) (h : i < 4) : (four bs k)[i]?.getD 0 = bs[4 * k + i]?.getD 0 := by
  unfold four
  rw [List.getElem?_take_of_lt h, List.getElem?_drop]
theorem alloc_get (w : World) (o : Obj) (k : Nat) : (w.alloc o).heap[k]? = if k = w.heap.size then some o else w.heap[k]? := by
  show (w.heap.push o)[k]? = _
  rw [Array.getElem?_push]
theorem has_new (w : World) (cs : Array Value) (t b : Nat) (h : b = w.heap.size) : Has (w.alloc (.cells cs t)) b cs t := by
  unfold Has; rw [alloc_get, if_pos h]
theorem has_old {w : World} {o : Obj} {cs : Array Value} {t b : Nat} (h : Has w b cs t) : Has (w.alloc o) b cs t := by
  have := h.lt
  unfold Has; rw [alloc_get, if_neg (by omega)]; exact h
theorem Has.one {w : World} {b t : Nat} {v : Value} (h : Has w b #[v] t) : w.cell? ⟨b, 0, none⟩ = some v := h.cell 0
theorem cell_set_off {w : World} {b p q : Nat} {v : Value} {x : Option Value} (hpq : ¬ p = q) (h : w.cell? ⟨b, p, none⟩ = x) : (w.setCell ⟨b, q, none⟩ v).cell? ⟨b, p, none⟩ = x := by
  have hne : (⟨b, q, none⟩ : Addr) ≠ ⟨b, p, none⟩ := by intro e; exact hpq (by injection e with _ e2; exact e2.symm)
  exact (World.cell?_setCell_other _ _ _ _ hne).trans h
theorem cell_set_blk {w : World} {b c p q : Nat} {v : Value} {x : Option Value} (hbc : ¬ c = b) (h : w.cell? ⟨c, p, none⟩ = x) : (w.setCell ⟨b, q, none⟩ v).cell? ⟨c, p, none⟩ = x := by
  have hne : (⟨b, q, none⟩ : Addr) ≠ ⟨c, p, none⟩ := by intro e; exact hbc (by injection e with e2; exact e2.symm)
  exact (World.cell?_setCell_other _ _ _ _ hne).trans h
theorem named {p : World → Prop} {W : World} (h : ∀ W0, W0 = W → p W0) : p W := h W rfl
theorem zeros_at (z : Value) (n j : Nat) (h : j < n) : (Array.replicate n z)[j]? = some z := by simp [h]

/-- What a run of 'spread' works over, from its loop on: the block's bytes, the six boxes of the closures, the array. -/
structure SpreadW (bs : List UInt8) (B : Nat) (w W : World) : Prop where
  below : Below B w W
  size : B + 9 ≤ W.heap.size
  bytes : Has W B (byteCells bs) 99
  res : ∃ z, Has W (B + 1) z 112 ∧ z.size = 64
  c7 : W.cell? ⟨B + 2, 0, none⟩ = some (.int .i64 7)
  c18 : W.cell? ⟨B + 3, 0, none⟩ = some (.int .i64 18)
  c3 : W.cell? ⟨B + 4, 0, none⟩ = some (.int .i64 3)
  c17 : W.cell? ⟨B + 5, 0, none⟩ = some (.int .i64 17)
  c19 : W.cell? ⟨B + 6, 0, none⟩ = some (.int .i64 19)
  c10 : W.cell? ⟨B + 7, 0, none⟩ = some (.int .i64 10)

theorem SpreadW.drewN {bs : List UInt8} {B : Nat} {w W : World} (h : SpreadW bs B w W) (n : Nat) : SpreadW bs B w (W.drewN n) :=
  ⟨⟨h.below.os, h.below.tape, h.below.output, h.below.size, h.below.block⟩, h.size, h.bytes, h.res, h.c7, h.c18, h.c3, h.c17, h.c19, h.c10⟩
theorem Has.drewN {w : World} {b t : Nat} {cs : Array Value} (h : Has w b cs t) (n : Nat) : Has (w.drewN n) b cs t := h
theorem SpreadW.set8 {bs : List UInt8} {B : Nat} {w W : World} (h : SpreadW bs B w W) (p : Nat) (v : Value) : SpreadW bs B w (W.setCell ⟨B + 8, p, none⟩ v) := by
  have oth : ∀ b, b ≠ B + 8 → (W.setCell ⟨B + 8, p, none⟩ v).heap[b]? = W.heap[b]? := fun b hb => heap_setCell_other W ⟨B + 8, p, none⟩ b v hb
  have cel : ∀ b, b ≠ B + 8 → (W.setCell ⟨B + 8, p, none⟩ v).cell? ⟨b, 0, none⟩ = W.cell? ⟨b, 0, none⟩ := fun b hb => World.cell?_of_block (w := W) (oth b hb)
  obtain ⟨z, hz, hzs⟩ := h.res
  exact ⟨h.below.setCell (by simp) _, by simpa [World.setCell] using h.size, (oth _ (by omega)).trans h.bytes, ⟨z, (oth _ (by omega)).trans hz, hzs⟩,
    (cel _ (by omega)).trans h.c7, (cel _ (by omega)).trans h.c18, (cel _ (by omega)).trans h.c3, (cel _ (by omega)).trans h.c17, (cel _ (by omega)).trans h.c19, (cel _ (by omega)).trans h.c10⟩

set_option maxRecDepth 100000 in
set_option maxHeartbeats 1000000 in
theorem spread_any (bs : List UInt8) (hb : bs.length = 64) (w : World) :
    Calls Tryd.prog 68 #[.agg (byteCells bs)] w fun e w' => ∃ cs, e = .returned (.agg cs) ∧ cs.size = 64 ∧ (∀ j, j < 64 → cs[j]? = some (wordAt bs j)) ∧ Below w.heap.size w w' := by
  go_enter Tryd.func68, Tryd.ntmps68
  go_wp2_with (go_at_call 74; refine (shifted_any _ _ _ _).mono ?_; rintro e w' ⟨rfl, rfl⟩)
  refine named (p := Code.wp _ _ _ _) ?_
  intro W0 hW0
  have hS : SpreadW bs w.heap.size w W0 := by
    rw [hW0]
    refine ⟨?_, by simp, ?_, ⟨Array.replicate 64 (.int .u32 0), ?_, by simp⟩, Has.one (t := 3) ?_, Has.one (t := 3) ?_, Has.one (t := 3) ?_, Has.one (t := 3) ?_, Has.one (t := 3) ?_, Has.one (t := 3) ?_⟩
    · repeat (first | exact Below.refl _ _ | refine Below.alloc ?_ (by simp <;> omega) _)
    all_goals repeat (first | (refine has_new _ _ _ _ ?_; simp; done) | refine has_old ?_)
  have hA : Has W0 (w.heap.size + 8) (Array.replicate 64 (.int .u32 0)) 112 := by
    rw [hW0]; exact has_new _ _ _ _ (by simp)
  clear hW0
  simp only [Nat.add_assoc, Nat.reduceAdd]
  go_loopw [9] (fun i wr => ∃ k : Nat, k ≤ 64 ∧ i = .int .i64 k ∧ SpreadW bs w.heap.size w wr ∧ ∃ cs, Has wr (w.heap.size + 8) cs 112 ∧ Upd (Array.replicate 64 (.int .u32 0)) cs 0 k (wordAt bs)) (fun i _ => 64 - (intOf i).toNat)
  case atStart => exact ⟨0, by omega, rfl, hS, _, hA, Upd.zero _ _ _⟩
  case round =>
    obtain ⟨k, hk, rfl, hSr, cs, hH, hU⟩ := hrel
    by_cases hlt : k < 64
    · by_cases h16 : k < 16
      · have al : Tryd.prog.arrayLen 99 = 64 := by kernel_rfl
        have l0 : (0 : Int) ≤ 4 * (k : Int) := by omega
        have l1 : 4 * (k : Int) ≤ 4 * (k : Int) + 4 := by omega
        have l2 : 4 * (k : Int) + 4 ≤ 64 := by omega
        obtain ⟨v0, hv0⟩ := Upd.ex hU k (by simpa using hlt)
        have hcell := (hH.cell k).trans hv0
        have hfree := hH.free k
        clear hv0
        have hby := hSr.bytes
        have i1 : (k : Int) < 64 := by omega
        go_wp2_with fail
        refine (read4_any (four bs k) _ _ _ _ (four_len bs hb k h16) (fun i hi => ?_)).mono ?_
        · rw [hby.cell, byteCells_at bs _ (by omega), four_at bs k i hi]
        rintro e w' ⟨rfl, rfl⟩
        go_wp2
        go_roundw
        case rel => exact ⟨k + 1, by omega, by go_num, hSr.set8 _ _, _, hH.set _ _, by have := hU.next (by simp; omega) (.int .u32 (wv (rd (four bs k)))) (by rw [wordAt, Wat_lo bs k h16]); rwa [Nat.zero_add] at this⟩
        case measure => simp [intOf]; omega
      · obtain ⟨m16, h16'⟩ : ∃ m, Hid (m + 16 = k) := ⟨k - 16, by show _ = _; omega⟩
        obtain ⟨m15, h15'⟩ : ∃ m, Hid (m + 15 = k) := ⟨k - 15, by show _ = _; omega⟩
        obtain ⟨m7, h7'⟩ : ∃ m, Hid (m + 7 = k) := ⟨k - 7, by show _ = _; omega⟩
        obtain ⟨m2, h2'⟩ : ∃ m, Hid (m + 2 = k) := ⟨k - 2, by show _ = _; omega⟩
        have word : ∀ j, j < k → wr.cell? ⟨w.heap.size + 8, j, none⟩ = some (.int .u32 (wv (Wat bs j))) := fun j hj => by
          rw [hH.cell, hU.at_ j, if_pos (by omega)]; rfl
        have w16 := word m16 (by have := h16'.out; omega)
        have w15 := word m15 (by have := h15'.out; omega)
        have w7 := word m7 (by have := h7'.out; omega)
        have w2 := word m2 (by have := h2'.out; omega)
        obtain ⟨v0, hv0⟩ := Upd.ex hU k (by simpa using hlt)
        have hcell := (hH.cell k).trans hv0
        have hfree := hH.free k
        have c7 := hSr.c7
        have c18 := hSr.c18
        have c3 := hSr.c3
        have c17 := hSr.c17
        have c19 := hSr.c19
        have c10 := hSr.c10
        clear hv0 word
        have i1 : (k : Int) < 64 := by omega
        go_wp2_with fail
        have e16 : IntKind.i64.wrap ((k : Int) - 16) = (m16 : Int) := by rw [IntKind.wrap_i64]; have := h16'.out; omega
        have e15 : IntKind.i64.wrap ((k : Int) - 15) = (m15 : Int) := by rw [IntKind.wrap_i64]; have := h15'.out; omega
        have e7 : IntKind.i64.wrap ((k : Int) - 7) = (m7 : Int) := by rw [IntKind.wrap_i64]; have := h7'.out; omega
        have e2 : IntKind.i64.wrap ((k : Int) - 2) = (m2 : Int) := by rw [IntKind.wrap_i64]; have := h2'.out; omega
        have n16 : ¬ m16 = k := by have := h16'.out; omega
        have n15 : ¬ m15 = k := by have := h15'.out; omega
        have n7 : ¬ m7 = k := by have := h7'.out; omega
        have n2 : ¬ m2 = k := by have := h2'.out; omega
        have n16' := fun e => n16 (Eq.symm e)
        have n15' := fun e => n15 (Eq.symm e)
        have n7' := fun e => n7 (Eq.symm e)
        have n2' := fun e => n2 (Eq.symm e)
        have b16 : (m16 : Int) < 64 := by have := h16'.out; omega
        have b15 : (m15 : Int) < 64 := by have := h15'.out; omega
        have b7 : (m7 : Int) < 64 := by have := h7'.out; omega
        have b2 : (m2 : Int) < 64 := by have := h2'.out; omega
        have Hv : Hid (Wat bs k = Wat bs m16 + (BitVec.rotateRight (Wat bs m15) 7 ^^^ BitVec.rotateRight (Wat bs m15) 18 ^^^ Wat bs m15 >>> 3) + Wat bs m7 + (BitVec.rotateRight (Wat bs m2) 17 ^^^ BitVec.rotateRight (Wat bs m2) 19 ^^^ Wat bs m2 >>> 10)) := by
          show _ = _
          rw [Wat_hi bs k (by omega) hlt, show k - 16 = m16 by have := h16'.out; omega, show k - 15 = m15 by have := h15'.out; omega, show k - 7 = m7 by have := h7'.out; omega, show k - 2 = m2 by have := h2'.out; omega]; rfl
        go_region_held3 (fun w' => w'.cell? ⟨w.heap.size + 8, m16, none⟩ = some (.int .u32 (wv (Wat bs m16))) ∧ w'.cell? ⟨w.heap.size + 8, m15, none⟩ = some (.int .u32 (wv (Wat bs m15)))
           ∧ w'.cell? ⟨w.heap.size + 8, m7, none⟩ = some (.int .u32 (wv (Wat bs m7))) ∧ w'.cell? ⟨w.heap.size + 8, m2, none⟩ = some (.int .u32 (wv (Wat bs m2)))
           ∧ w'.cell? ⟨w.heap.size + 2, 0, none⟩ = some (.int .i64 7) ∧ w'.cell? ⟨w.heap.size + 3, 0, none⟩ = some (.int .i64 18) ∧ w'.cell? ⟨w.heap.size + 4, 0, none⟩ = some (.int .i64 3)
           ∧ w'.cell? ⟨w.heap.size + 5, 0, none⟩ = some (.int .i64 17) ∧ w'.cell? ⟨w.heap.size + 6, 0, none⟩ = some (.int .i64 19) ∧ w'.cell? ⟨w.heap.size + 7, 0, none⟩ = some (.int .i64 10))
          (first | (go_keep; done) | (exact ⟨cell_set_off n16 w16, cell_set_off n15 w15, cell_set_off n7 w7, cell_set_off n2 w2, cell_set_blk (by omega) c7, cell_set_blk (by omega) c18, cell_set_blk (by omega) c3, cell_set_blk (by omega) c17, cell_set_blk (by omega) c19, cell_set_blk (by omega) c10⟩))
          (first
            | (go_at_call_of 77 (Value.int .u32 (wv (Wat bs m15))); refine (shifted1_any (Wat bs m15) ⟨w.heap.size + 2, 0, none⟩ ⟨w.heap.size + 3, 0, none⟩ ⟨w.heap.size + 4, 0, none⟩ 7 18 3 _ (by decide) (by decide) (by decide) (by decide) (by decide) (by decide) ?_ ?_ ?_).mono ?_; (simp [*]); (simp [*]); (simp [*]); rintro e w' ⟨rfl, nd, rfl⟩)
            | (go_at_call_of 77 (Value.int .u32 (wv (Wat bs m2))); refine (shifted1_any (Wat bs m2) ⟨w.heap.size + 5, 0, none⟩ ⟨w.heap.size + 6, 0, none⟩ ⟨w.heap.size + 7, 0, none⟩ 17 19 10 _ (by decide) (by decide) (by decide) (by decide) (by decide) (by decide) ?_ ?_ ?_).mono ?_; (simp [*]); (simp [*]); (simp [*]); rintro e w' ⟨rfl, nd, rfl⟩))
        all_goals
          clear e16 e15 e7 e2 n16' n15' n7' n2'
          go_wp2
          go_roundw
          case rel => exact ⟨k + 1, by omega, by go_num, (hSr.drewN _).set8 _ _, _, (hH.drewN _).set _ _, by have := hU.next (by simp; omega) _ (show _ = wordAt bs k by rw [wordAt, Hv.out]); rwa [Nat.zero_add] at this⟩
          case measure => simp [intOf]; omega
    · have hk64 : k = 64 := by omega
      subst hk64
      obtain ⟨z, hz, hzs⟩ := hSr.res
      have hcs : cs.size = 64 := by rw [hU.size]; simp
      have hone : cs.all (·.oneCell') = true := by
        rw [Array.all_eq_true]
        intro i hi
        have := hU.at_ i
        rw [if_pos (by omega), Array.getElem?_eq_getElem hi] at this
        rw [Option.some.inj this]; rfl
      have hSb := hSr.below
      go_wp2_with (first
        | refine wpList_load_row rfl 112 _ rfl (w.heap.size + 8) rfl 112 cs (0, 0) _ hH Tryd.underlying112 rfl (by rw [hcs]; kernel_rfl) ?_
        | refine wpList_store_row rfl 112 _ _ rfl (w.heap.size + 1) cs rfl rfl 112 z hz (by rw [hcs]; kernel_rfl) (by omega) hone ?_)
      refine bodyPost_ret (results_cell_row rfl _ _ (w.heap.size + 1) 112 cs (0, 0) _ rfl (setRow_heap _ _ z _ _ _ hz) Tryd.underlying112 rfl (by rw [hcs]; kernel_rfl)) rfl ?_
      refine ⟨cs, rfl, hcs, fun j hj => by rw [hU.at_ j, if_pos (by omega)]; rfl, ?_⟩
      exact hSb.trans ⟨rfl, rfl, rfl, by simp, fun j hj => setRow_other _ _ _ _ (by omega)⟩
end Go.Proofs.YtcmkjgodgocdfaaDoor
/- (*state).take: the state behind a block. -/
namespace Go.Proofs.YtcmkjgodgocdfaaDoor
open Go.RowKit
attribute [local go_sem] wr_add wm_add wm_shl wm_shr wm_and wm_xor wm_or wv_nonneg bm_zx bm_lo wm_shl8 wm_shr8 wm_not wr_not wi_not

theorem run_index64 (cs : Array Value) (k : Nat) (v : Value) (hk : k < 64) (hv : cs[k]? = some v) (w : World) :
    (Instr.index 112 (.agg cs) (.int .i64 (k : Int))).run Tryd.prog w = .ok v w := by
  simp [Instr.index, go_sem, hv]
  omega

/-- What the program's text lays: the square words and the cube words. -/
structure Glob (w : World) : Prop where
  sq : ∀ j, j < 8 → w.cell? ⟨0, j, none⟩ = some (.int .u32 (wv (squareW j)))
  cu : ∀ j, j < 64 → w.cell? ⟨1, j, none⟩ = some (.int .u32 (wv (cubeW j)))
  size : 2 ≤ w.heap.size
theorem Glob.ex {b : Nat} {w w' : World} (h : Glob w) (k : Ex b w w') (hb : 2 ≤ b) : Glob w' :=
  ⟨fun j hj => (World.cell?_of_block (w := w) (k.block 0 (by have := h.size; omega) (by omega))).trans (h.sq j hj),
   fun j hj => (World.cell?_of_block (w := w) (k.block 1 (by have := h.size; omega) (by omega))).trans (h.cu j hj), Nat.le_trans h.size k.size⟩
theorem Glob.below {B : Nat} {w w' : World} (h : Glob w) (k : Below B w w') (hb : 2 ≤ B) : Glob w' :=
  ⟨fun j hj => (k.cell (p := ⟨0, j, none⟩) (by simp; omega)).trans (h.sq j hj), fun j hj => (k.cell (p := ⟨1, j, none⟩) (by simp; omega)).trans (h.cu j hj), Nat.le_trans h.size k.size⟩

/-- The words of a state in the first eight cells of a block. -/
def StAt (cs : Array Value) (s : St) : Prop := ∀ j, j < 8 → cs[j]? = some (.int .u32 (wv (s.get j)))

set_option maxRecDepth 100000 in
set_option maxHeartbeats 2000000 in
theorem take_any (s : St) (bs : List UInt8) (hb : bs.length = 64) (b t : Nat) (cs : Array Value) (w : World) (hh : Has w b cs t) (hs : StAt cs s) (hg : Glob w) :
    Calls Tryd.prog 59 #[.pointer (some ⟨b, 0, none⟩), .agg (byteCells bs)] w fun e w' => e = .returned (.tuple #[]) ∧ Ex b w w' ∧
      ∃ cs', Has w' b cs' t ∧ Upd cs cs' 0 8 (fun j => .int .u32 (wv ((comp s bs).get j))) := by
  have hlt := hh.lt
  go_enter Tryd.func59, Tryd.ntmps59
  go_wp2_with (go_at_call 67; refine (turned_any _ _ _ _).mono ?_; rintro e w' ⟨rfl, rfl⟩)
  refine named (p := Code.wp _ _ _ _) ?_
  intro W0 hW0
  have hB : Below w.heap.size w W0 := by
    rw [hW0]
    repeat (first | exact Below.refl _ _ | refine Below.alloc ?_ (by simp <;> omega) _)
  have hz : Hid (W0.heap.size = w.heap.size + 7) := by show _ = _; rw [hW0]; simp
  have hby : Has W0 w.heap.size (byteCells bs) 99 := by
    rw [hW0]; repeat (first | (refine has_new _ _ _ _ ?_; simp; done) | refine has_old ?_)
  have cl : ∀ i v, Has W0 (w.heap.size + i) #[v] 3 → W0.cell? ⟨w.heap.size + i, 0, none⟩ = some v := fun i v h => h.one
  have k2 := cl 1 (.int .i64 2) (by rw [hW0]; repeat (first | (refine has_new _ _ _ _ ?_; simp; done) | refine has_old ?_))
  have k13 := cl 2 (.int .i64 13) (by rw [hW0]; repeat (first | (refine has_new _ _ _ _ ?_; simp; done) | refine has_old ?_))
  have k22 := cl 3 (.int .i64 22) (by rw [hW0]; repeat (first | (refine has_new _ _ _ _ ?_; simp; done) | refine has_old ?_))
  have k6 := cl 4 (.int .i64 6) (by rw [hW0]; repeat (first | (refine has_new _ _ _ _ ?_; simp; done) | refine has_old ?_))
  have k11 := cl 5 (.int .i64 11) (by rw [hW0]; repeat (first | (refine has_new _ _ _ _ ?_; simp; done) | refine has_old ?_))
  have k25 := cl 6 (.int .i64 25) (by rw [hW0]; repeat (first | (refine has_new _ _ _ _ ?_; simp; done) | refine has_old ?_))
  clear hW0 cl
  simp only [Nat.add_assoc, Nat.reduceAdd]
  have hh0 := hh.below hB hlt
  have f0 : W0.cell? ⟨b, 0, none⟩ = some (.int .u32 (wv s.a)) := (hh0.cell 0).trans (hs 0 (by omega))
  have f1 : W0.cell? ⟨b, 1, none⟩ = some (.int .u32 (wv s.b)) := (hh0.cell 1).trans (hs 1 (by omega))
  have f2 : W0.cell? ⟨b, 2, none⟩ = some (.int .u32 (wv s.c)) := (hh0.cell 2).trans (hs 2 (by omega))
  have f3 : W0.cell? ⟨b, 3, none⟩ = some (.int .u32 (wv s.d)) := (hh0.cell 3).trans (hs 3 (by omega))
  have f4 : W0.cell? ⟨b, 4, none⟩ = some (.int .u32 (wv s.e)) := (hh0.cell 4).trans (hs 4 (by omega))
  have f5 : W0.cell? ⟨b, 5, none⟩ = some (.int .u32 (wv s.f)) := (hh0.cell 5).trans (hs 5 (by omega))
  have f6 : W0.cell? ⟨b, 6, none⟩ = some (.int .u32 (wv s.g)) := (hh0.cell 6).trans (hs 6 (by omega))
  have f7 : W0.cell? ⟨b, 7, none⟩ = some (.int .u32 (wv s.h)) := (hh0.cell 7).trans (hs 7 (by omega))
  go_quiet (fail)
  clear f0 f1 f2 f3 f4 f5 f6 f7
  go_wp2_with (first
    | refine wpList_load_row rfl 99 _ rfl w.heap.size rfl 99 (byteCells bs) (0, 0) _ hby Tryd.underlying99 rfl (by rw [byteCells_size, hb]; kernel_rfl) ?_
    | (go_at_call 68; refine (spread_any bs hb _).mono ?_; rintro e W1 ⟨ws, rfl, hws, hwat, hB1⟩))
  have hz0 := hz.out
  have hBb : Below W0.heap.size W0 W1 := ⟨hB1.os, hB1.tape, hB1.output, hB1.size, hB1.block⟩
  have g2 := (hBb.cell (p := ⟨w.heap.size + 1, 0, none⟩) (by simp; omega)).trans k2
  have g13 := (hBb.cell (p := ⟨w.heap.size + 2, 0, none⟩) (by simp; omega)).trans k13
  have g22 := (hBb.cell (p := ⟨w.heap.size + 3, 0, none⟩) (by simp; omega)).trans k22
  have g6 := (hBb.cell (p := ⟨w.heap.size + 4, 0, none⟩) (by simp; omega)).trans k6
  have g11 := (hBb.cell (p := ⟨w.heap.size + 5, 0, none⟩) (by simp; omega)).trans k11
  have g25 := (hBb.cell (p := ⟨w.heap.size + 6, 0, none⟩) (by simp; omega)).trans k25
  have hB2 : Below w.heap.size w W1 := hB.trans (hBb.mono (by omega))
  have hh1 := hh.below hB2 hlt
  have hG1 := hg.below hB2 hg.size
  clear k2 k13 k22 k6 k11 k25 hh0 hby hB1 hz0
  go_loopw [6, 7, 8, 9, 10, 11, 12, 13, 56] (fun a b' c d e f g h i wr => ∃ k : Nat, k ≤ 64 ∧ i = .int .i64 k ∧ Hid (∃ n, wr = W1.drewN n) ∧ a = .int .u32 (wv (rnds s bs k).a) ∧ b' = .int .u32 (wv (rnds s bs k).b) ∧ c = .int .u32 (wv (rnds s bs k).c) ∧ d = .int .u32 (wv (rnds s bs k).d)
     ∧ e = .int .u32 (wv (rnds s bs k).e) ∧ f = .int .u32 (wv (rnds s bs k).f) ∧ g = .int .u32 (wv (rnds s bs k).g) ∧ h = .int .u32 (wv (rnds s bs k).h)) (fun _ _ _ _ _ _ _ _ i _ => 64 - (intOf i).toNat)
  case atStart => exact ⟨0, by omega, rfl, ⟨0, rfl⟩, rfl, rfl, rfl, rfl, rfl, rfl, rfl, rfl⟩
  case round =>
    obtain ⟨k, hk, rfl, hn, rfl, rfl, rfl, rfl, rfl, rfl, rfl, rfl⟩ := hrel
    by_cases hk64 : k < 64
    · have hidx := run_index64 ws k _ hk64 (hwat k hk64)
      unfold wordAt at hidx
      have cw : ∀ a, wr.cell? a = W1.cell? a := fun a => by obtain ⟨n, e⟩ := hn.out; rw [e]; rfl
      have hcu := (cw _).trans (hG1.cu k hk64)
      have q2 := (cw _).trans g2
      have q13 := (cw _).trans g13
      have q22 := (cw _).trans g22
      have q6 := (cw _).trans g6
      have q11 := (cw _).trans g11
      have q25 := (cw _).trans g25
      clear cw
      have i1 : (k : Int) < 64 := by omega
      generalize hr : rnds s bs k = r
      have Hr : Hid (rnds s bs k = r) := hr
      clear hr
      go_wp2_with fail
      go_quiet ((go_at_call 72; exact Calls.quiet_of (turned1_any r.e _ _ _ 6 11 25 _ (by decide) (by decide) (by decide) (by decide) (by decide) (by decide) q6 q11 q25)))
      go_wp2_with (go_at_call 72; refine (turned1_any r.a _ _ _ 2 13 22 _ (by decide) (by decide) (by decide) (by decide) (by decide) (by decide) (by exact q2) (by exact q13) (by exact q22)).mono ?_; rintro e w' ⟨rfl, n2, rfl⟩)
      have hst : rnds s bs (k + 1) = rnd r (cubeW k) (Wat bs k) := by show rnd (rnds s bs k) _ _ = _; rw [Hr.out]
      go_roundw
      case rel =>
        refine ⟨k + 1, by omega, by go_num, (by obtain ⟨n, e⟩ := hn.out; rw [e]; exact ⟨_, by rw [World.drewN_drewN]⟩), ?_⟩
        rw [hst]
        exact ⟨rfl, rfl, rfl, rfl, rfl, rfl, rfl, rfl⟩
      case measure => simp [intOf]; omega
    · have e64 : k = 64 := by omega
      subst e64
      have hw : ∀ m : Nat, wr.heap[m]? = W1.heap[m]? := fun m => by obtain ⟨n, e⟩ := hn.out; rw [e]; rfl
      have hz : Hid (wr.heap.size = W1.heap.size) := by obtain ⟨n, e⟩ := hn.out; show _ = _; rw [e]; rfl
      have hBr : Below w.heap.size w wr := by obtain ⟨n, e⟩ := hn.out; rw [e]; exact ⟨hB2.os, hB2.tape, hB2.output, hB2.size, hB2.block⟩
      have hhr : Has wr b cs t := (hw b).trans hh1
      clear hw g2 g13 g22 g6 g11 g25 hG1 hh1 hn
      generalize hr : rnds s bs 64 = r
      have Hr : Hid (rnds s bs 64 = r) := hr
      clear hr
      go_wp2_with fail
      refine named (p := Code.wp _ _ _ _) ?_
      intro W2 hW2
      have hM : Has W2 wr.heap.size #[.int .u32 (wv r.a), .int .u32 (wv r.b), .int .u32 (wv r.c), .int .u32 (wv r.d), .int .u32 (wv r.e), .int .u32 (wv r.f), .int .u32 (wv r.g), .int .u32 (wv r.h)] 98 := by
        rw [hW2]; exact has_new _ _ _ _ rfl
      have hmx : ∀ j, j < 8 → W2.cell? ⟨wr.heap.size, j, none⟩ = some (.int .u32 (wv (r.get j))) := fun j hj => by
        rw [hM.cell]
        match j, hj with
        | 0, _ | 1, _ | 2, _ | 3, _ | 4, _ | 5, _ | 6, _ | 7, _ => rfl
      have hb2' : Has W2 b cs t := by rw [hW2]; exact has_old hhr
      have hB2' : Below w.heap.size w W2 := by rw [hW2]; exact hBr.alloc hBr.size _
      have hbm : b < wr.heap.size := hhr.lt
      have hms : wr.heap.size < W2.heap.size := hM.lt
      clear hW2 hM
      generalize wr.heap.size = M at *
      go_loopw [117] (fun i wr => ∃ k : Nat, k ≤ 8 ∧ i = .int .i64 k ∧ Ex b W2 wr ∧ ∃ cs', Has wr b cs' t ∧ Upd cs cs' 0 k (fun j => .int .u32 (wv (s.get j + r.get j)))) (fun i _ => 8 - (intOf i).toNat)
      case atStart => exact ⟨0, by omega, rfl, Ex.refl _ _, cs, hb2', Upd.zero _ _ _⟩
      case round =>
        obtain ⟨k, hk, rfl, hE, cs', hc', hU⟩ := hrel
        by_cases hk8 : k < 8
        · have hsz : 8 ≤ cs.size := by
            have := hs 7 (by omega)
            exact (Array.getElem?_eq_some_iff.1 this).1
          have i1 : (k : Int) < 8 := by omega
          have d1 : wr.cell? ⟨b, k, none⟩ = some (.int .u32 (wv (s.get k))) := by
            rw [hc'.cell, hU.at_ k, if_neg (by omega)]; exact hs k hk8
          have d2 : wr.cell? ⟨M, k, none⟩ = some (.int .u32 (wv (r.get k))) :=
            (World.cell?_of_block (w := W2) (hE.block M hms (by omega))).trans (hmx k hk8)
          have d3 := hc'.free k
          go_wp2_with fail
          go_region
          all_goals
            go_wp2
            go_roundw
            case rel => exact ⟨k + 1, by omega, by go_num, (hE.trans (Ex.drewN _ _ 1)).trans (Ex.set _ _ _ _), _, (hc'.drewN 1).set _ _, by have := hU.next (by omega) _ (show _ = Value.int .u32 (wv (s.get k + r.get k)) from rfl); rwa [Nat.zero_add] at this⟩
            case measure => simp [intOf]; omega
        · go_wp2
          go_end0
          have e8 : k = 8 := by omega
          subst e8
          refine ⟨rfl, (Ex.below hB2').trans hE, cs', hc', ?_⟩
          have : (fun j => Value.int .u32 (wv ((comp s bs).get j))) = (fun j => Value.int .u32 (wv (s.get j + r.get j))) := by
            funext j
            rw [← Hr.out]
            match j with
            | 0 | 1 | 2 | 3 | 4 | 5 | 6 => rfl
            | n + 7 => rfl
          rw [this]; exact hU
end Go.Proofs.YtcmkjgodgocdfaaDoor
/- A state's digest; what is laid behind the bytes. -/
namespace Go.Proofs.YtcmkjgodgocdfaaDoor
open Go.RowKit
attribute [local go_sem] wr_add wm_add wv_nonneg bm_zx bm_lo

theorem cells_eq (cs : Array Value) (l : List UInt8) (n : Nat) (hn : l.length = n) (hs : cs.size = n) (h : ∀ j, j < n → cs[j]? = some (.int .u8 (bv (l[j]?.getD 0)))) : cs = byteCells l := by
  apply Array.ext_getElem?
  intro j
  by_cases hj : j < n
  · rw [h j hj, byteCells_at l j (by omega)]
  · rw [Array.getElem?_eq_none (by omega), Array.getElem?_eq_none (by rw [byteCells_size]; omega)]

theorem byteCells_one (l : List UInt8) : (byteCells l).all (·.oneCell') = true := by
  rw [Array.all_eq_true]
  intro i hi
  simp [byteCells, Value.oneCell']

/-- Forty bytes' worth of rounds of 'lay', one behind the other. -/
theorem Upd.join {cs c1 c2 : Array Value} {n m : Nat} {f g : Nat → Value} (h : Upd cs c1 0 n f) (k : Upd c1 c2 n m g) (hg : ∀ j, j < m → g j = f (n + j)) : Upd cs c2 0 (n + m) f := by
  refine ⟨k.size.trans h.size, fun j => ?_⟩
  rw [k.at_ j]
  by_cases e : n ≤ j ∧ j < n + m
  · rw [if_pos e, if_pos (by omega), hg _ (by omega)]; congr 2; omega
  · rw [if_neg e, h.at_ j]
    by_cases e2 : 0 ≤ j ∧ j < 0 + n
    · rw [if_pos e2, if_pos (by omega)]
    · rw [if_neg e2, if_neg (by omega)]

set_option maxRecDepth 100000 in
set_option maxHeartbeats 1000000 in
theorem digest_any (s : St) (b t : Nat) (cs : Array Value) (w : World) (hh : Has w b cs t) (hs : StAt cs s) :
    Calls Tryd.prog 62 #[.pointer (some ⟨b, 0, none⟩)] w fun e w' => e = .returned (.agg (byteCells (digL s))) ∧ Below w.heap.size w w' := by
  have hlt := hh.lt
  go_enter Tryd.func62, Tryd.ntmps62
  go_wp2_with fail
  refine named (p := Code.wp _ _ _ _) ?_
  intro W0 hW0
  have hB : Below w.heap.size w W0 := by
    rw [hW0]
    repeat (first | exact Below.refl _ _ | refine Below.alloc ?_ (by simp) _)
  have h2 : Has W0 w.heap.size (Array.replicate 32 (.int .u8 0)) 30 := by
    rw [hW0]; exact has_old (has_new _ _ _ _ (by simp))
  have h3 : Has W0 (w.heap.size + 1) (Array.replicate 32 (.int .u8 0)) 30 := by
    rw [hW0]; exact has_new _ _ _ _ (by simp)
  clear hW0
  have hb0 := hh.below hB hlt
  go_loopw [7] (fun i wr => ∃ k : Nat, k ≤ 8 ∧ i = .int .i64 k ∧ Ex (w.heap.size + 1) W0 wr ∧ ∃ c, Has wr (w.heap.size + 1) c 30 ∧ Upd (Array.replicate 32 (.int .u8 0)) c 0 (4 * k) (fun j => .int .u8 (bv (digB s j)))) (fun i _ => 8 - (intOf i).toNat)
  case atStart => exact ⟨0, by omega, rfl, Ex.refl _ _, _, h3, Upd.zero _ _ _⟩
  case round =>
    obtain ⟨k, hk, rfl, hE, c, hc, hU⟩ := hrel
    by_cases hk8 : k < 8
    · have i1 : (k : Int) < 8 := by omega
      have d1 : wr.cell? ⟨b, k, none⟩ = some (.int .u32 (wv (s.get k))) := by
        rw [(hb0.ex hE (by omega)).cell]; exact hs k hk8
      have al : Tryd.prog.arrayLen 30 = 32 := by kernel_rfl
      have l0 : (0 : Int) ≤ 4 * (k : Int) := by omega
      have l1 : 4 * (k : Int) ≤ 4 * (k : Int) + 4 := by omega
      have l2 : 4 * (k : Int) + 4 ≤ 32 := by omega
      go_wp2_with fail
      go_quiet (fail)
      go_wp2_with fail
      have hcs : c.size = 32 := by rw [hU.size]; simp
      refine (lay32_any (s.get k) 4 _ _ _ 30 c _ (by omega) (by omega) (hc.drewN nq)).mono ?_
      rintro e w' ⟨rfl, hE1, _, c1, hc1, hU1⟩
      go_wp2
      go_roundw
      case rel => exact ⟨k + 1, by omega, by go_num, (hE.trans (Ex.drewN _ _ nq)).trans hE1, c1, hc1, by
        have := hU.join hU1 (fun j hj => by unfold be32 digB; rw [show (4 * k + j) / 4 = k by omega, show (4 * k + j) % 4 = j by omega]); rwa [show 4 * k + 4 = 4 * (k + 1) by omega] at this⟩
      case measure => simp [intOf]; omega
    · have e8 : k = 8 := by omega
      subst e8
      have hcs : c.size = 32 := by rw [hU.size]; simp
      have hce : c = byteCells (digL s) := cells_eq c (digL s) 32 (digL_length s) hcs (fun j hj => by rw [hU.at_ j, if_pos (by omega), digL_get s j hj]; rfl)
      subst hce
      have h2r := h2.ex hE (by omega)
      have hBr : Below w.heap.size w wr := Ex.to_below hB hB.size hE (by omega)
      clear h2 h3 hb0
      go_wp2_with (first
        | refine wpList_load_row rfl 30 _ rfl (w.heap.size + 1) rfl 30 _ (0, 0) _ hc Tryd.underlying30 rfl (by rw [hcs]; kernel_rfl) ?_
        | refine wpList_store_row rfl 30 _ _ rfl w.heap.size _ rfl rfl 30 _ h2r (by rw [hcs]; kernel_rfl) (by rw [hcs]; simp) (byteCells_one _) ?_)
      refine bodyPost_ret (results_cell_row rfl _ _ w.heap.size 30 _ (0, 0) _ rfl (setRow_heap _ _ _ _ _ _ h2r) Tryd.underlying30 rfl (by rw [hcs]; kernel_rfl)) rfl ?_
      exact ⟨rfl, hBr.trans ⟨rfl, rfl, rfl, by simp, fun j hj => setRow_other _ _ _ _ (by omega)⟩⟩

def zeroCells (n : Nat) : Array Value := Array.replicate n (.int .u8 0)
theorem zeroCells_size (n : Nat) : (zeroCells n).size = n := by simp [zeroCells]
theorem zeroCells_at (n j : Nat) (h : j < n) : (zeroCells n)[j]? = some (.int .u8 0) := by simp [zeroCells, h]
theorem info5 : (Tryd.prog.info? 5).map (fun i => (i.zero, i.size, i.bytes)) = some (some (.int .u8 0), 1, 1) := by kernel_rfl
theorem made_one (z : Value) (n : Nat) : madeCells #[z] n = Array.replicate n z := by
  apply Array.ext
  · simp [madeCells]
  · intro i h1 h2
    simp [madeCells, Nat.mod_one]
theorem make_bytes (c : Int) (n : Nat) (hc : c = (n : Int)) (hn : n ≤ 16777216) (w : World) :
    (Instr.makeSlice 77 (.int .i64 c) (.int .i64 c)).run Tryd.prog w = .ok (.slice (some ⟨w.heap.size, 0, none⟩) n n) (w.alloc (.cells (zeroCells n) 5)) := by
  subst hc
  obtain ⟨i0, hi, hz0, hz1, hz2⟩ := info_parts info5
  rw [run_makeSlice w 77 5 i0 (.int .u8 0) Tryd.underlying77 hi hz0 .i64 .i64 n n (by omega) (by omega) (by rw [hz1]; omega) (by rw [hz2]; omega) (by omega), hz1]
  simp only [Int.toNat_natCast, Nat.mul_one, Value.cells, made_one, zeroCells]

set_option maxRecDepth 100000 in
set_option maxHeartbeats 1000000 in
theorem tail_any (n : Nat) (hn : n < 1000000000000) (w : World) :
    Calls Tryd.prog 61 #[.int .i64 (n : Int)] w fun e w' => Below w.heap.size w w' ∧ w.heap.size < w'.heap.size ∧ 
      e = .returned (.slice (some ⟨w.heap.size, 0, none⟩) (tailL n).length (tailL n).length) ∧ Has w' w.heap.size (byteCells (tailL n)) 5 := by
  obtain ⟨z, hz⟩ : ∃ z : Nat, Hid (z = (119 - n % 64) % 64) := ⟨_, rfl⟩
  have e1 : (119 - (n : Int) % 64) % 64 = (z : Int) := by have := hz.out; omega
  have z1 : z < 64 := by have := hz.out; omega
  have hmk := fun w => make_bytes (1 + (z : Int) + 8) (z + 9) (by omega) (by omega) w
  have l0 : (0 : Int) ≤ 1 + (z : Int) := by omega
  go_enter Tryd.func61, Tryd.ntmps61
  go_wp2_with fail
  rw [show z + 9 - (1 + z) = 8 by omega, show ((n : Int) * 8) = nv (n * 8) by unfold nv; omega]
  refine (lay64_any (n * 8) 8 _ _ _ 5 _ _ (by omega) (by simp [zeroCells_size]; omega) (has_new _ _ _ _ rfl)).mono ?_
  rintro e w' ⟨rfl, hE, hsz, c1, hc1, hU⟩
  go_wp2
  go_ret
  have hl : (tailL n).length = z + 9 := by rw [tailL_length]; have := hz.out; omega
  have hB : Below w.heap.size w w' := Ex.to_below ((Below.refl _ _).alloc (Nat.le_refl _) _) (by simp) hE (Nat.le_refl _)
  refine ⟨hB, by have := hE.size; simp at this; omega, by rw [hl]; rfl, ?_⟩
  have hce : c1 = byteCells (tailL n) := by
    refine cells_eq c1 _ (z + 9) hl (by rw [hU.size]; simp [zeroCells_size]) (fun j hj => ?_)
    rw [hU.at_ j]
    unfold tailL
    rw [← hz.out]
    by_cases h8 : 1 + z ≤ j ∧ j < 1 + z + 8
    · rw [if_pos h8]
      obtain ⟨i, rfl⟩ : ∃ i, j = i + z + 1 := ⟨j - z - 1, by omega⟩
      rw [List.getElem?_cons_succ, List.getElem?_append_right (by simp), show i + z + 1 - (1 + z) = i by omega]
      simp [show i < 8 by omega, be64]
    · rw [if_neg h8, Array.getElem?_setIfInBounds, zeroCells_size]
      by_cases h0 : j = 0
      · subst h0
        rw [if_pos rfl, if_pos (by omega)]
        rfl
      · rw [if_neg (by omega), zeroCells_at _ _ (by omega)]
        obtain ⟨i, rfl⟩ : ∃ i, j = i + 1 := ⟨j - 1, by omega⟩
        rw [List.getElem?_cons_succ, List.getElem?_append_left (by simp; omega)]
        simp [show i < z by omega, bv]
  rw [← hce]; exact hc1
end Go.Proofs.YtcmkjgodgocdfaaDoor
/- A hash under way: what it holds; New, none, Len, Copy. -/
namespace Go.Proofs.YtcmkjgodgocdfaaDoor
open Go.RowKit

/-- The cells of a hash that has these bytes. -/
structure HCells (cs : Array Value) (m : List UInt8) : Prop where
  size : cs.size = 74
  st : StAt cs (stN m (m.length / 64))
  rest : ∀ j, j < m.length % 64 → cs[8 + j]? = some (.int .u8 (bv (m[64 * (m.length / 64) + j]?.getD 0)))
  byte : ∀ j, j < 64 → ∃ x : UInt8, cs[8 + j]? = some (.int .u8 (bv x))
  len : cs[72]? = some (.int .i64 (m.length : Int))
  made : cs[73]? = some (.bool true)
  small : m.length < 1000000000000
/-- A hash that has these bytes lies in block b. -/
def HashAt (w : World) (b : Nat) (m : List UInt8) : Prop := ∃ cs, Has w b cs 101 ∧ HCells cs m
theorem HashAt.lt {w : World} {b : Nat} {m : List UInt8} (h : HashAt w b m) : b < w.heap.size := by obtain ⟨cs, h, _⟩ := h; exact h.lt
theorem HashAt.ex {w w' : World} {b c : Nat} {m : List UInt8} (h : HashAt w b m) (k : Ex c w w') (hb : b ≠ c) : HashAt w' b m := by
  obtain ⟨cs, h, r⟩ := h; exact ⟨cs, h.ex k hb, r⟩
theorem HashAt.below {w w' : World} {b B : Nat} {m : List UInt8} (h : HashAt w b m) (k : Below B w w') (hb : b < B) : HashAt w' b m := by
  obtain ⟨cs, h, r⟩ := h; exact ⟨cs, h.below k hb, r⟩

theorem HCells.one {cs : Array Value} {m : List UInt8} (h : HCells cs m) : cs.all (·.oneCell') = true := by
  rw [Array.all_eq_true]
  intro i hi
  have e : cs[i]? = some cs[i] := Array.getElem?_eq_getElem hi
  have hs := h.size
  by_cases h8 : i < 8
  · have := h.st i h8; rw [e] at this; rw [Option.some.inj this]; rfl
  · by_cases h72 : i < 72
    · obtain ⟨x, hx⟩ := h.byte (i - 8) (by omega)
      rw [show 8 + (i - 8) = i by omega, e] at hx; rw [Option.some.inj hx]; rfl
    · by_cases e72 : i = 72
      · subst e72; have := h.len; rw [e] at this; rw [Option.some.inj this]; rfl
      · have e73 : i = 73 := by omega
        subst e73; have := h.made; rw [e] at this; rw [Option.some.inj this]; rfl

set_option maxHeartbeats 400000 in
theorem none_any (b : Nat) (w : World) (h : w.cell? ⟨b, 73, none⟩ = some (.bool true)) :
    Calls Tryd.prog 57 #[.pointer (some ⟨b, 0, none⟩)] w fun e w' => e = .returned (.bool false) ∧ w' = w := by
  go_enter Tryd.func57, Tryd.ntmps57
  go_wp2
  go_ret
  exact ⟨rfl, rfl⟩

set_option maxHeartbeats 400000 in
theorem none_nil (w : World) :
    Calls Tryd.prog 57 #[.pointer none] w fun e w' => e = .returned (.bool true) ∧ w' = w := by
  go_enter Tryd.func57, Tryd.ntmps57
  go_wp2
  go_ret
  exact ⟨rfl, rfl⟩

def zeroHash : Array Value := (List.replicate 8 (Value.int .u32 0) ++ List.replicate 64 (Value.int .u8 0) ++ [Value.int .i64 0, Value.bool false]).toArray
set_option maxRecDepth 100000 in
set_option maxHeartbeats 400000 in
theorem copy_any (b : Nat) (m : List UInt8) (w : World) (h : HashAt w b m) :
    Calls Tryd.prog 60 #[.pointer (some ⟨b, 0, none⟩)] w fun e w' => e = .returned (.pointer (some ⟨w.heap.size, 0, none⟩)) ∧ Below w.heap.size w w' ∧ HashAt w' w.heap.size m := by
  obtain ⟨cs, hh, hc⟩ := h
  have c73 := (hh.cell 73).trans hc.made
  have hs := hc.size
  go_enter Tryd.func60, Tryd.ntmps60
  go_wp2_with (first
    | (go_at_call 57; refine (none_any _ _ c73).mono ?_; rintro e w' ⟨rfl, hw⟩; obtain rfl := hw.symm)
    | refine wpList_load_row rfl 101 _ rfl b rfl 101 cs (0, 0) _ hh Tryd.underlying101 rfl (by rw [hs]; kernel_rfl) ?_
    | refine wpList_store_row rfl 101 _ _ rfl w.heap.size cs rfl rfl 101 _ (has_new _ _ _ _ rfl) (by rw [hs]; kernel_rfl) (by rw [hs]; simp) hc.one ?_)
  go_ret
  have hn := has_new w zeroHash 101 w.heap.size rfl
  have h1 := setRow_heap (w.alloc (.cells zeroHash 101)) w.heap.size _ cs _ _ hn
  exact ⟨rfl, ((Below.refl _ _).alloc (Nat.le_refl _) _).trans ⟨rfl, rfl, rfl, by simp, fun j hj => setRow_other _ _ _ _ (by omega)⟩, cs, h1, hc⟩

set_option maxHeartbeats 400000 in
theorem copy_nil (w : World) :
    Calls Tryd.prog 60 #[.pointer none] w fun e w' => e = .returned (.pointer none) ∧ w' = w := by
  go_enter Tryd.func60, Tryd.ntmps60
  go_wp2_with (go_at_call 57; refine (none_nil _).mono ?_; rintro e w' ⟨rfl, rfl⟩)
  go_ret
  exact ⟨rfl, rfl⟩

def squareCells : List Value := (List.range 8).map fun j => Value.int .u32 (wv (squareW j))
def newHash : Array Value := (squareCells ++ List.replicate 64 (Value.int .u8 0) ++ [Value.int .i64 0, Value.bool true]).toArray
theorem newHash_cells : HCells newHash [] := by
  refine ⟨rfl, fun j hj => ?_, fun j hj => absurd hj (by simp), fun j hj => ⟨0, ?_⟩, rfl, rfl, by simp⟩
  · match j, hj with
    | 0, _ | 1, _ | 2, _ | 3, _ | 4, _ | 5, _ | 6, _ | 7, _ => rfl
  · unfold newHash squareCells
    rw [List.getElem?_toArray, List.getElem?_append_left (by simp; omega), List.getElem?_append_right (by simp), List.getElem?_replicate, if_pos (by simp; omega)]
    rfl
theorem Glob.range {w : World} (h : Glob w) : w.rangeAt 0 0 squareCells := fun j v hv => by
  have hj : j < 8 := by
    have := (List.getElem?_eq_some_iff.1 hv).1
    simpa [squareCells] using this
  rw [Nat.zero_add, h.sq j hj, ← hv]
  simp [squareCells, hj]

set_option maxRecDepth 100000 in
set_option maxHeartbeats 400000 in
theorem new_any (w : World) (hg : Glob w) :
    Calls Tryd.prog 50 #[] w fun e w' => e = .returned (.pointer (some ⟨w.heap.size, 0, none⟩)) ∧ Below w.heap.size w w' ∧ HashAt w' w.heap.size [] := by
  go_enter Tryd.func50, Tryd.ntmps50
  go_wp2_with (first
    | refine wpList_load_mid rfl 97 _ rfl 0 0 rfl squareCells _ hg.range Tryd.underlying97 rfl (by kernel_rfl) ?_
    | fail)
  go_ret
  have e : (List.foldl (fun (cs : Array Value) (x : Value × Nat) => cs.setIfInBounds x.snd x.fst) Tryd.zeroCells101 squareCells.zipIdx).setIfInBounds 73 (Value.bool true) = newHash := by kernel_rfl
  rw [e]
  exact ⟨rfl, (Below.refl _ _).alloc (Nat.le_refl _) _, newHash, has_new _ _ _ _ rfl, newHash_cells⟩
end Go.Proofs.YtcmkjgodgocdfaaDoor
/- What laying bytes behind the rest makes of a hash's cells; laws of whole arrays inside a fence. -/
namespace Go.Proofs.YtcmkjgodgocdfaaDoor
open Go.RowKit

/-- The cells of a hash whose last bytes have just been laid behind the rest, the block not yet taken. -/
structure Mid (cs : Array Value) (m : List UInt8) : Prop where
  size : cs.size = 74
  st : StAt cs (stN m ((m.length - 1) / 64))
  rest : ∀ j, j < m.length - 64 * ((m.length - 1) / 64) → cs[8 + j]? = some (.int .u8 (bv (m[64 * ((m.length - 1) / 64) + j]?.getD 0)))
  byte : ∀ j, j < 64 → ∃ x : UInt8, cs[8 + j]? = some (.int .u8 (bv x))
  len : cs[72]? = some (.int .i64 (m.length : Int))
  made : cs[73]? = some (.bool true)
  small : m.length < 1000000000000
  pos : 0 < m.length

theorem mid_of {cs c1 : Array Value} {m d : List UInt8} {k : Nat} (h : HCells cs m) (hk : 0 < k) (hk1 : k ≤ 64 - m.length % 64) (hk2 : k ≤ d.length) (hsm : m.length + k < 1000000000000)
    (hU : Upd cs c1 (8 + m.length % 64) k (fun j => .int .u8 (bv (d[j]?.getD 0)))) : Mid (c1.setIfInBounds 72 (.int .i64 ((m.length : Int) + (k : Int)))) (m ++ d.take k) := by
  have hl : (m ++ d.take k).length = m.length + k := by simp; omega
  have hq : (m.length + k - 1) / 64 = m.length / 64 := by omega
  have s1 : c1.size = 74 := hU.size.trans h.size
  have at_ : ∀ j, j ≠ 72 → (c1.setIfInBounds 72 (.int .i64 ((m.length : Int) + (k : Int))))[j]? = c1[j]? := fun j hj => by
    rw [Array.getElem?_setIfInBounds, if_neg (by omega)]
  refine ⟨by simp [s1], fun j hj => ?_, fun j hj => ?_, fun j hj => ?_, ?_, ?_, by rw [hl]; omega, by rw [hl]; omega⟩
  · rw [at_ j (by omega), hU.at_ j, if_neg (by omega), hl, hq, stN_append m _ _ (by omega)]
    exact h.st j hj
  · rw [hl, hq] at hj ⊢
    rw [at_ _ (by omega), hU.at_ _]
    by_cases e : 8 + m.length % 64 ≤ 8 + j ∧ 8 + j < 8 + m.length % 64 + k
    · rw [if_pos e, List.getElem?_append_right (by omega), List.getElem?_take_of_lt (by omega), show 64 * (m.length / 64) + j - m.length = 8 + j - (8 + m.length % 64) by omega]
    · rw [if_neg e, h.rest j (by omega), List.getElem?_append_left (by omega)]
  · rw [at_ _ (by omega), hU.at_ _]
    by_cases e : 8 + m.length % 64 ≤ 8 + j ∧ 8 + j < 8 + m.length % 64 + k
    · rw [if_pos e]; exact ⟨_, rfl⟩
    · rw [if_neg e]; exact h.byte j hj
  · rw [Array.getElem?_setIfInBounds, if_pos rfl, if_pos (by omega), hl]; simp
  · rw [at_ _ (by omega), hU.at_ _, if_neg (by omega)]; exact h.made

theorem Mid.part {cs : Array Value} {m : List UInt8} (h : Mid cs m) (hm : ¬ m.length % 64 = 0) : HCells cs m := by
  have hq : (m.length - 1) / 64 = m.length / 64 := by omega
  exact ⟨h.size, hq ▸ h.st, fun j hj => by have := h.rest j (by omega); rwa [hq] at this, h.byte, h.len, h.made, h.small⟩

/-- The last block of bytes that end with one. -/
def lastB (m : List UInt8) : List UInt8 := (m.drop (64 * ((m.length - 1) / 64))).take 64
theorem lastB_len (m : List UInt8) (h0 : 0 < m.length) (hm : m.length % 64 = 0) : (lastB m).length = 64 := by simp [lastB]; omega
theorem Mid.last {cs : Array Value} {m : List UInt8} (h : Mid cs m) (hm : m.length % 64 = 0) (j : Nat) (hj : j < 64) : cs[8 + j]? = some (.int .u8 (bv ((lastB m)[j]?.getD 0))) := by
  have := h.pos
  rw [h.rest j (by omega), lastB, List.getElem?_take_of_lt hj, List.getElem?_drop]
theorem Mid.whole {cs c2 : Array Value} {m : List UInt8} (h : Mid cs m) (hm : m.length % 64 = 0)
    (hU : Upd cs c2 0 8 (fun j => .int .u32 (wv ((comp (stN m ((m.length - 1) / 64)) (lastB m)).get j)))) : HCells c2 m := by
  have h0 := h.pos
  have hq : m.length / 64 = (m.length - 1) / 64 + 1 := by omega
  have at_ : ∀ j, 8 ≤ j → c2[j]? = cs[j]? := fun j hj => by rw [hU.at_ j, if_neg (by omega)]
  refine ⟨hU.size.trans h.size, fun j hj => ?_, fun j hj => absurd hj (by omega), fun j hj => by rw [at_ _ (by omega)]; exact h.byte j hj, by rw [at_ _ (by omega)]; exact h.len, by rw [at_ _ (by omega)]; exact h.made, h.small⟩
  rw [hU.at_ j, if_pos (by omega), hq]
  rfl

/-- Laying a list into a row, cell by cell told. -/
theorem upd_splice (cur : Array Value) (o : Nat) (cs : List Value) (f : Nat → Value) (h : o + cs.length ≤ cur.size) (hf : ∀ j, j < cs.length → cs[j]? = some (f j)) :
    Upd cur (cur.toList.take o ++ cs ++ cur.toList.drop (o + cs.length)).toArray o cs.length f := by
  refine ⟨by simp; omega, fun j => ?_⟩
  rw [List.getElem?_toArray]
  by_cases e : o ≤ j ∧ j < o + cs.length
  · rw [if_pos e, List.getElem?_append_left (by simp; omega), List.getElem?_append_right (by simp; omega)]
    rw [show j - (cur.toList.take o).length = j - o by simp; omega]
    exact hf _ (by omega)
  · rw [if_neg e]
    by_cases e1 : j < o
    · rw [List.getElem?_append_left (by simp; omega), List.getElem?_append_left (by simp; omega), List.getElem?_take_of_lt e1]; simp
    · rw [List.getElem?_append_right (by simp; omega), List.getElem?_drop]
      simp
      congr 1; omega

section
variable {F : Fence} {n : Nat} {P : Program}
theorem wpListIn_load_mid {ops : Array Oper} {rest : List Oper} {op : Oper} {a : Act} {w : World} {Q : Exit → Act → World → Prop} (hw : Region.wanted op (yielded ops a.tmps) = true) (ty : TypeId) (x : Operand) (ho : op.op = .load ty x)
    (b o : Nat) (hx : a.eval x = .pointer (some ⟨b, o, none⟩)) (cs : List Value) (d : TypeDesc) (hc : w.rangeAt b o cs)
    (hu : P.underlying ty = some d) (hd : d.isRow = true) (hi : (P.info? ty).map (·.size) = some cs.length)
    (h : wpListIn F n P ops Q rest (a.put op.dst (.agg cs.toArray)) w) : wpListIn F n P ops Q (op :: rest) a w := by
  refine wpListIn_step fun K hK => ?_
  rw [if_pos hw]
  unfold Oper.wpIn
  refine ⟨?_, ?_⟩
  · simp [Oper.about, ho]
  · rw [Oper.semAt_plain F _ _ (by rw [ho]; intro c hc'; cases hc')]
    unfold execOp
    simp only [ho, hx, Instr.loadAt, Instr.sureAddr, Sem.run_bind, Sem.run_pure, Result.andThen_ok, run_loadVar_mid w b o ty cs d hc hu hd hi]
    exact hK _ _ h
theorem wpListIn_store_row {ops : Array Oper} {rest : List Oper} {o : Oper} {a : Act} {w : World} {Q : Exit → Act → World → Prop} (hgd : o.guard = none) (ty : TypeId) (x y : Operand) (ho : o.op = .store ty x y)
    (g : Nat) (cells : Array Value) (hx : a.eval x = .pointer (some ⟨g, 0, none⟩)) (hy : a.eval y = .agg cells)
    (t : TypeId) (old : Array Value) (hg : w.heap[g]? = some (.cells old t (0, 0))) (hi : (P.info? ty).map (·.size) = some cells.size)
    (hold : old.size = cells.size) (h1 : cells.all (·.oneCell') = true)
    (h : wpListIn F n P ops Q rest (a.put o.dst undef) (w.setRow g cells)) : wpListIn F n P ops Q (o :: rest) a w := by
  refine wpListIn_plain hgd fun K hK => ?_
  unfold Oper.wpIn
  refine ⟨?_, ?_⟩
  · simp [Oper.about, ho]
  · rw [Oper.semAt_plain F _ _ (by rw [ho]; intro c hc'; cases hc')]
    unfold execOp
    simp only [ho, hx, hy, Instr.storeAt, Instr.sureAddr, Sem.run_bind, Sem.run_pure, Result.andThen_ok, run_storeVar_row w g t ty old cells hg hi hold h1]
    exact hK _ _ h
end
end Go.Proofs.YtcmkjgodgocdfaaDoor
/- (*Hash).blocks: the function that is ranged over, whatever its round does that takes a block. -/
namespace Go.Proofs.YtcmkjgodgocdfaaDoor
open Go.RowKit

/-- But for blocks b and c, what was there is as it was. -/
structure Ex2 (b c : Nat) (w w' : World) : Prop where
  os : w'.os = w.os
  tape : w'.tape = w.tape
  output : w'.output = w.output
  size : w.heap.size ≤ w'.heap.size
  block : ∀ k, k < w.heap.size → k ≠ b → k ≠ c → w'.heap[k]? = w.heap[k]?
theorem Ex2.refl (b c : Nat) (w : World) : Ex2 b c w w := ⟨rfl, rfl, rfl, Nat.le_refl _, fun _ _ _ _ => rfl⟩
theorem Ex2.trans {b c : Nat} {x y z : World} (h : Ex2 b c x y) (k : Ex2 b c y z) : Ex2 b c x z :=
  ⟨k.os.trans h.os, k.tape.trans h.tape, k.output.trans h.output, Nat.le_trans h.size k.size, fun i hi hb hc => (k.block i (Nat.lt_of_lt_of_le hi h.size) hb hc).trans (h.block i hi hb hc)⟩
theorem Ex2.left {b : Nat} (c : Nat) {x y : World} (h : Ex b x y) : Ex2 b c x y := ⟨h.os, h.tape, h.output, h.size, fun i hi hb _ => h.block i hi hb⟩
theorem Ex2.right (b : Nat) {c : Nat} {x y : World} (h : Ex c x y) : Ex2 b c x y := ⟨h.os, h.tape, h.output, h.size, fun i hi _ hc => h.block i hi hc⟩
theorem Has.ex2 {w w' : World} {b c d t : Nat} {cs : Array Value} (h : Has w d cs t) (k : Ex2 b c w w') (hb : d ≠ b) (hc : d ≠ c) : Has w' d cs t := (k.block d h.lt hb hc).trans h
theorem Glob.ex2 {b c : Nat} {w w' : World} (h : Glob w) (k : Ex2 b c w w') (hb : 2 ≤ b) (hc : 2 ≤ c) : Glob w' :=
  ⟨fun j hj => (World.cell?_of_block (w := w) (k.block 0 (by have := h.size; omega) (by omega) (by omega))).trans (h.sq j hj),
   fun j hj => (World.cell?_of_block (w := w) (k.block 1 (by have := h.size; omega) (by omega) (by omega))).trans (h.cu j hj), Nat.le_trans h.size k.size⟩
theorem Ex.setRow (b : Nat) (w : World) (cs : Array Value) : Ex b w (w.setRow b cs) := ⟨rfl, rfl, rfl, by simp, fun i _ hb => setRow_other _ _ _ _ hb⟩

/-- The bytes of a slice's cells. -/
def BytesIn (w : World) (d o : Nat) (l : List UInt8) : Prop := ∀ j, j < l.length → w.cell? ⟨d, o + j, none⟩ = some (.int .u8 (bv (l[j]?.getD 0)))

/-- What a round does that takes a block: the state's words are those behind the block; all else is as it was. -/
def Takes (n l hb : Nat) (W0 : World) : Prop := ∀ (W : World) (cs : Array Value) (s : St) (blk : List UInt8), Has W hb cs 101 → StAt cs s → blk.length = 64 → Glob W → W.heap[l]? = W0.heap[l]? →
  W0.heap.size ≤ W.heap.size → (∀ xb, xb < W0.heap.size → W0.heap[xb]? = some (.cells #[.pointer (some ⟨hb, 0, none⟩)] 88 (0, 0)) → W.heap[xb]? = W0.heap[xb]?) →
  YieldAt Fence.wide n Tryd.prog l #[.agg (byteCells blk)] W fun e W' => e = .returned (.bool true) ∧ Ex hb W W' ∧ ∃ cs', Has W' hb cs' 101 ∧ Upd cs cs' 0 8 (fun j => .int .u32 (wv ((comp s blk).get j)))

/-- A builtin copy at a step of a region that draws its order, by its run. -/
theorem step_copy_run {P : Program} {ops : Array Oper} {o : Oper} {a : Act} {w w' : World} {K : Act → World → Prop} {Q : Exit → Act → World → Prop} {E : Prop} (hgd : o.guard = none) (d s : Operand) (dT sT : TypeId)
    (ho : o.op = .call { callee := .builtin .copy, args := #[d, s], argTypes := #[dT, sT] }) (x y v : Value) (hd : a.eval d = x) (hs : a.eval s = y)
    (hrun : (Builtin.copy_ #[dT, sT] o.type #[x, y]).run P w = .ok v w') (h : K (a.put o.dst v) w') :
    if Region.wanted o (yielded ops a.tmps) = true then Oper.wp P o a w K Q else E := by
  have hw : Region.wanted o (yielded ops a.tmps) = true := by simp [Region.wanted, hgd]
  rw [if_pos hw]
  unfold Oper.wp
  simp [execOp, ho, resolve, invoke, builtin, hd, hs, hrun, Result.andThen]
  exact h

theorem two_sets {W1 : World} {hb bb : Nat} {cells : Array Value} {v u sv : Value} (h1 : Has W1 hb cells 101) (h2 : Has W1 bb #[u] 77) (hne : bb ≠ hb) :
    Has ((W1.setCell ⟨hb, 72, none⟩ v).setCell ⟨bb, 0, none⟩ sv) hb (cells.setIfInBounds 72 v) 101 ∧ Has ((W1.setCell ⟨hb, 72, none⟩ v).setCell ⟨bb, 0, none⟩ sv) bb #[sv] 77 ∧ Ex2 hb bb W1 ((W1.setCell ⟨hb, 72, none⟩ v).setCell ⟨bb, 0, none⟩ sv) :=
  ⟨(h1.set 72 v).ex (Ex.set bb _ 0 sv) (Ne.symm hne), (h2.ex (Ex.set hb W1 72 v) hne).set 0 sv, (Ex2.left bb (Ex.set hb W1 72 v)).trans (Ex2.right hb (Ex.set bb _ 0 sv))⟩

theorem rest_range {W : World} {hb : Nat} {cells : Array Value} {blk : List UInt8} (h : Has W hb cells 101) (hl : blk.length = 64) (hr : ∀ j, j < 64 → cells[8 + j]? = some (.int .u8 (bv (blk[j]?.getD 0)))) :
    W.rangeAt hb 8 (byteCells blk).toList := fun j v hv => by
  have hj : j < 64 := by
    have := (List.getElem?_eq_some_iff.1 hv).1
    simpa [byteCells_size, hl] using this
  have hb := byteCells_at blk j (by omega)
  have e : (byteCells blk).toList[j]? = (byteCells blk)[j]? := by simp
  rw [h.cell, hr j hj, ← hv, e, hb]

/-- How long the slice in a box is. -/
def leftOf (bb : Nat) (w : World) : Nat := match w.cell? ⟨bb, 0, none⟩ with | some (.slice _ n _) => n | _ => 0
theorem leftOf_has {w : World} {bb t n cap : Nat} {a : Option Addr} (h : Has w bb #[.slice a n cap] t) : leftOf bb w = n := by
  unfold leftOf; rw [h.one]

set_option maxRecDepth 100000 in
set_option maxHeartbeats 2000000 in
theorem seq_any (n l hb xb bb db o cap : Nat) (a : Option Addr) (m d : List UInt8) (W : World) (hT : Takes (n - 1) l hb W)
    (hH : HashAt W hb m) (hx : Has W xb #[.pointer (some ⟨hb, 0, none⟩)] 88) (hbx : Has W bb #[.slice a d.length cap] 77) (ha : d ≠ [] → a = some ⟨db, o, none⟩) (hd : BytesIn W db o d) (hcap : d.length ≤ cap) (hg : Glob W)
    (hsm : m.length + d.length < 1000000000000) (hl : l < W.heap.size)
    (n1 : xb ≠ hb) (n2 : bb ≠ hb) (n3 : xb ≠ bb) (n4 : db ≠ hb) (n5 : db ≠ bb) (n6 : l ≠ hb) (n7 : l ≠ bb) (g1 : 2 ≤ hb) (g2 : 2 ≤ bb) (hdl : db < W.heap.size) :
    CallsIn Fence.wide n Tryd.prog 66 #[.func (.yield l) #[] #[], .pointer (some ⟨bb, 0, none⟩), .pointer (some ⟨xb, 0, none⟩)] W fun e W' => e = .returned (.tuple #[]) ∧ Ex2 hb bb W W' ∧ HashAt W' hb (m ++ d) := by
  refine callsIn_of_wp Tryd.func66 rfl trivial ?_ rfl
  simp only [Tryd.ntmps66, List.size_toArray, List.length_cons, List.length_nil, Nat.reduceAdd, Nat.reduceSub, Array.replicate_succ, Array.replicate_zero, List.push_toArray, List.append_toArray, List.nil_append, List.cons_append]
  gi_wp2
  gi_loopw [] (fun wr => ∃ (m' d' : List UInt8) (a' : Option Addr) (o' cap' : Nat), Hid (m' ++ d' = m ++ d) ∧ Ex2 hb bb W wr ∧ HashAt wr hb m' ∧ Has wr bb #[.slice a' d'.length cap'] 77 ∧ d'.length ≤ cap' ∧ (d' ≠ [] → a' = some ⟨db, o', none⟩) ∧ BytesIn wr db o' d') (fun wr => leftOf bb wr)
  case atStart => exact ⟨m, d, a, o, cap, rfl, Ex2.refl _ _ _, hH, hbx, hcap, ha, hd⟩
  case round =>
    obtain ⟨m', d', a', o', cap', hmd, hE, hH', hbx', hcap', ha', hd'⟩ := hrel
    have hmd' : m'.length + d'.length = m.length + d.length := by have := congrArg List.length hmd.out; simpa using this
    have HL : Hid (m'.length + d'.length = m.length + d.length) := hmd'
    clear hmd'
    have cbb := hbx'.one
    have cxb := (hx.ex2 hE n1 n3).one
    obtain ⟨cs, hcs, hC⟩ := hH'
    have c72 := (hcs.cell 72).trans hC.len
    cases d' with
    | nil =>
      gi_wp2
      go_end0
      exact ⟨rfl, hE, cs, hcs, by have := hmd.out; rw [List.append_nil] at this; rw [← this]; exact hC⟩
    | cons x xs =>
      have hne : (x :: xs) ≠ [] := by simp
      obtain rfl := ha' hne
      have hlen : 0 < (x :: xs).length := by simp
      generalize hdd : x :: xs = d' at *
      clear hdd
      have hlen' : (0 : Int) < (d'.length : Int) := by omega
      obtain ⟨p, hp⟩ : ∃ p, Hid (p = m'.length % 64) := ⟨_, rfl⟩
      obtain ⟨c, hc⟩ : ∃ c, Hid (c = Nat.min d'.length (64 - p)) := ⟨_, rfl⟩
      have p1 : p < 64 := by have := hp.out; omega
      have hc1 : Hid (0 < c ∧ c ≤ d'.length ∧ c ≤ 64 - p) := by
        have := hc.out; show _ ∧ _; rw [this]; change 0 < min _ _ ∧ min _ _ ≤ _ ∧ min _ _ ≤ _; omega
      have ep : (m'.length : Int) % 64 = (p : Int) := by have := hp.out; omega
      have etm : (m'.length : Int).tmod 64 = (p : Int) := by rw [Int.tmod_eq_emod_of_nonneg (by omega)]; exact ep
      have ew : IntKind.i64.wrap (p : Int) = (p : Int) := by rw [IntKind.wrap_i64]; omega
      have al : Tryd.prog.arrayLen 99 = 64 := by kernel_rfl
      have p2 : (p : Int) ≤ 64 := by omega
      have n64 : ¬ 64 = p := by omega
      obtain ⟨cells1, hU1, hcp⟩ : ∃ c1, Upd cs c1 (8 + p) c (fun j => .int .u8 (bv (d'[j]?.getD 0))) ∧ ∀ nq, (Builtin.copy_ #[77, 77] 3 #[.slice (some ⟨hb, 8 + p, none⟩) (64 - p) (64 - p), .slice (some ⟨db, o', none⟩) d'.length cap']).run Tryd.prog (wr.drewN nq) = .ok (.int .i64 (c : Int)) ((wr.drewN nq).setRow hb c1) := by
        have hcl : ((d'.take c).map fun b => Value.int .u8 (bv b)).length = c := by have := hc1.out; simp; omega
        have hsz := hC.size
        refine ⟨_, by have := upd_splice cs (8 + p) ((d'.take c).map fun b => Value.int .u8 (bv b)) (fun j => .int .u8 (bv (d'[j]?.getD 0))) (by rw [hcl]; have := hc1.out; omega) (fun j hj => by rw [hcl] at hj; have h2 := hc1.out; simp [List.getElem?_take_of_lt hj, show j < d'.length by omega]); rwa [hcl] at this, fun nq => ?_⟩
        have := run_copy_row (P := Tryd.prog) (wr.drewN nq) 77 77 3 5 hb (8 + p) (64 - p) (64 - p) ⟨db, o', none⟩ d'.length cap' cs 101 ((d'.take c).map fun b => Value.int .u8 (bv b)) Tryd.underlying77 (by kernel_rfl) hcs (by rw [hcl]; exact hc.out) (fun j v hv => by
            have hj : j < c := by have := (List.getElem?_eq_some_iff.1 hv).1; omega
            have h2 := hc1.out
            rw [Addr.add_mid]
            have h3 := hd' j (by omega)
            show wr.cell? _ = _
            rw [h3, ← hv]
            simp [List.getElem?_take_of_lt hj, show j < d'.length by omega]) (by rw [hcl]; have := hc1.out; omega) (by intro v hv; obtain ⟨b, _, rfl⟩ := List.mem_map.1 hv; rfl)
        rw [this, hcl]; rfl
      have d72 : cells1[72]? = some (.int .i64 (m'.length : Int)) := by rw [hU1.at_ 72, if_neg (by have := hc1.out; omega)]; exact hC.len
      gi_wp2
      refine wpIn_wide.2 ?_
      go_region_held3 (fun w' => w'.cell? ⟨xb, 0, none⟩ = some (.pointer (some ⟨hb, 0, none⟩)) ∧ w'.cell? ⟨bb, 0, none⟩ = some (.slice (some ⟨db, o', none⟩) d'.length cap') ∧ w'.cell? ⟨hb, 72, none⟩ = some (.int .i64 (m'.length : Int)))
        (first | (go_keep; done) | exact ⟨(World.cell?_of_block (w := wr) (setRow_other _ _ _ _ n1)).trans cxb, (World.cell?_of_block (w := wr) (setRow_other _ _ _ _ n2)).trans cbb, (cell_setRow_same _ _ _ _ _ _ _ hcs).trans d72⟩)
        (refine step_copy_run rfl _ _ 77 77 rfl _ _ _ (by rfl) (by rfl) (hcp _) ?_)
      refine named (p := Exit.then _ _ _ _) ?_
      intro W1 hW1
      have hE1 : Ex hb wr W1 := by rw [hW1]; exact (Ex.drewN _ _ 1).trans (Ex.setRow _ _ _)
      have hH1 : Has W1 hb cells1 101 := by rw [hW1]; exact setRow_heap _ _ _ _ _ _ (hcs.drewN 1)
      clear hW1 hcp
      have bx1 := hbx'.ex hE1 n2
      have xb1 := ((hx.ex2 hE n1 n3).ex hE1 n1).one
      have cb1 := bx1.one
      have fb1 := bx1.free 0
      have h72 := (hH1.cell 72).trans d72
      have f72 := hH1.free 72
      clear cxb cbb c72 d72 ep etm ew al p2 n64
      have q1 : m'.length + c < 1000000000000 := by have := hc1.out; have := HL.out; omega
      have q2 : (c : Int) ≤ (d'.length : Int) := by have := hc1.out; omega
      have q3 : c ≤ d'.length := by have := hc1.out; omega
      have q4 : (c : Int) ≤ (cap' : Int) := by omega
      have hmid := mid_of (d := d') (k := c) hC (by have := hc1.out; omega) (by have := hc1.out; have := hp.out; omega) q3 q1 (by have h := hU1; rw [hp.out] at h; exact h)
      have hml : (m' ++ d'.take c).length = m'.length + c := by simp; omega
      have hmd2 : Hid ((m' ++ d'.take c) ++ d'.drop c = m ++ d) := by show _ = _; rw [List.append_assoc, List.take_append_drop]; exact hmd.out
      have hdl2 : Hid ((d'.drop c).length = d'.length - c) := by show _ = _; simp
      have hml' : Hid ((m' ++ d'.take c).length = m'.length + c) := hml
      generalize m' ++ d'.take c = m2 at *
      clear hml
      obtain ⟨A, C2, hA, hC2, hA2, hC3⟩ : ∃ (A : Option Addr) (C2 : Nat), Hid ((if cap' = c then some (⟨db, o', none⟩ : Addr) else some ⟨db, o' + c, none⟩) = A) ∧ Hid (cap' - c = C2) ∧ Hid (d'.drop c ≠ [] → A = some ⟨db, o' + c, none⟩) ∧ Hid (d'.length - c ≤ C2) := by
        refine ⟨_, _, rfl, rfl, ?_, by show _ ≤ _; omega⟩
        intro h
        rw [if_neg]
        intro e
        apply h
        rw [List.drop_eq_nil_iff]; omega
      obtain ⟨t1, t2, t3⟩ := two_sets (v := .int .i64 ((m'.length : Int) + (c : Int))) (sv := .slice A (d'.length - c) C2) hH1 bx1 n2
      have hd1 : BytesIn W1 db o' d' := fun j hj => (World.cell?_of_block (w := wr) (hE1.block db (Nat.lt_of_lt_of_le hdl hE.size) n4)).trans (hd' j hj)
      have hd2 : BytesIn ((W1.setCell ⟨hb, 72, none⟩ (.int .i64 ((m'.length : Int) + (c : Int)))).setCell ⟨bb, 0, none⟩ (.slice A (d'.length - c) C2)) db (o' + c) (d'.drop c) := fun j hj => by
        rw [hdl2.out] at hj
        refine cell_set_blk n5 (cell_set_blk n4 ?_)
        have := hd1 (c + j) (by omega)
        rw [Nat.add_assoc, this, List.getElem?_drop]
      by_cases h64 : (m'.length + c) % 64 = 0
      · have e64 : (((m'.length : Int) + (c : Int)) % 64 == 0) = true := by simp; omega
        have hm0 : m2.length % 64 = 0 := by rw [hml'.out]; exact h64
        have hbl := lastB_len m2 hmid.pos hm0
        have hrg := rest_range t1 hbl (fun j hj => hmid.last hm0 j hj)
        have hbs : (byteCells (lastB m2)).toList.length = 64 := by rw [Array.length_toList, byteCells_size, hbl]
        have hW2 : ((W1.setCell ⟨hb, 72, none⟩ (.int .i64 ((m'.length : Int) + (c : Int)))).setCell ⟨bb, 0, none⟩ (.slice A (d'.length - c) C2)).heap[l]? = W.heap[l]? :=
          (((hE.trans (Ex2.left bb hE1)).trans t3).block l hl n6 n7)
        have hE2 := (hE.trans (Ex2.left bb hE1)).trans t3
        obtain ⟨fn, tmps, assign, body, hy, hR⟩ := hT _ _ _ (lastB m2) t1 hmid.st hbl (hg.ex2 hE2 g1 g2) hW2 hE2.size (fun x hx1 hx2 => hE2.block x hx1 (fun e => by
            obtain ⟨c0, k0, _⟩ := hH
            rw [e] at hx2
            have := k0.symm.trans hx2
            simp at this) (fun e => by
            rw [e] at hx2
            have := hbx.symm.trans hx2
            simp at this))
        have HR : Hid (RoundIn Fence.wide (n - 1) Tryd.prog l fn tmps assign body _ _) := hR
        clear hR hW2
        by_cases hcc : cap' = c
        all_goals
          have hA3 := hA.out
          have hC4 := hC2.out
          first | (rw [if_neg hcc] at hA3) | (rw [if_pos hcc] at hA3; rw [hcc, Nat.sub_self] at hC4)
          subst hA3 hC4
          gi_wp2_with (refine wpListIn_load_mid (by rfl) 99 _ rfl hb 8 (by rfl) _ _ hrg Tryd.underlying99 rfl (by rw [hbs]; kernel_rfl) ?_)
          refine ⟨fun h => (by cases h), HR.out.mono ?_⟩
          rintro e W3 ⟨rfl, hE3, cs3, hc3, hU3⟩
          gi_wp2_with fail
          go_roundw
          case rel => exact ⟨m2, d'.drop c, _, o' + c, _, hmd2, hE2.trans (Ex2.left _ hE3), ⟨_, hc3, hmid.whole hm0 hU3⟩, by rw [hdl2.out]; exact t2.ex hE3 n2, by rw [hdl2.out]; exact hC3.out, (by first | exact fun _ => rfl | exact hA2.out), fun j hj => (World.cell?_of_block (hE3.block db (Nat.lt_of_lt_of_le hdl hE2.size) n4)).trans (hd2 j hj)⟩
          case measure => rw [leftOf_has (t2.ex hE3 n2), leftOf_has hbx']; have := hc1.out; omega
      · have e64 : (((m'.length : Int) + (c : Int)) % 64 == 0) = false := by simp; omega
        have hfin : HCells (cells1.setIfInBounds 72 (.int .i64 ((m'.length : Int) + (c : Int)))) m2 := hmid.part (by rw [hml'.out]; exact h64)
        by_cases hcc : cap' = c
        all_goals
          have hA3 := hA.out
          have hC4 := hC2.out
          first | (rw [if_neg hcc] at hA3) | (rw [if_pos hcc] at hA3; rw [hcc, Nat.sub_self] at hC4)
          subst hA3 hC4
          gi_wp2_with fail
          refine ⟨fun _ h => (by cases h), ?_⟩
          gi_wp2_with fail
          go_roundw
          case rel => exact ⟨m2, d'.drop c, _, o' + c, _, hmd2, (hE.trans (Ex2.left _ hE1)).trans t3, ⟨_, t1, hfin⟩, by rw [hdl2.out]; exact t2, by rw [hdl2.out]; exact hC3.out, (by first | exact fun _ => rfl | exact hA2.out), hd2⟩
          case measure => rw [leftOf_has t2, leftOf_has hbx']; have := hc1.out; omega
end Go.Proofs.YtcmkjgodgocdfaaDoor
/- A range over a function whose body never leaves it: two laws at the wide fence, whatever the function does between its rounds. -/
namespace Go.Proofs.YtcmkjgodgocdfaaDoor
open Go.RowKit
variable {n : Nat} {P : Program}

/-- The loop's record. -/
def recOf (fn : FuncId) (tmps : Array Value) (ps : Array Tmp) (assign body : Code) (D : Nat) (st : LoopState) : Loop :=
  { state := st, pending := none, fn, tmps, params := ps, assign, body, defers := D }

/-- The statement: the call of the function that is ranged over, at yield; behind it the record is exhausted. -/
theorem wp_range {g : Operand} {ps : Array Tmp} {assign body : Code} {Q : Exit → Act → World → Prop} {a : Act} {w : World} {gf : Nat} {lb : Array Value}
    (hg : a.eval g = .func (.func gf) #[] lb) (eg : ∀ args w, (callFunc gf args).run P w = .ok (.enter gf args) w) (R : World → Prop)
    (hcall : ∀ fn W1, Below w.heap.size w W1 → W1.heap.size = w.heap.size + 2 → W1.heap[w.heap.size]? = some (.deferred (some [])) → W1.heap[w.heap.size + 1]? = some (.loop (recOf fn a.tmps ps assign body w.heap.size .ready)) →
      CallsIn Fence.wide (n - 1) P gf (#[.func (.yield (w.heap.size + 1)) #[] #[]] ++ lb) W1 fun e W3 => (∃ v, e = .returned v) ∧ W3.heap[w.heap.size + 1]? = W1.heap[w.heap.size + 1]? ∧ R W3)
    (hdone : ∀ W3 o, R W3 → Q .normal { a with defers := { target := .collected w.heap.size, args := #[] } :: a.defers } (W3.putObj (w.heap.size + 1) o)) :
    (Code.rangeFunc g ps assign body).wpIn Fence.wide n P Q a w := by
  refine wpIn_rangeFunc ?_
  intro fn _
  obtain ⟨W1, hW1⟩ : ∃ W1, (w.alloc (.deferred (some []))).alloc (.loop (recOf fn a.tmps ps assign body w.heap.size .ready)) = W1 := ⟨_, rfl⟩
  have hL : W1.heap[w.heap.size + 1]? = some (.loop (recOf fn a.tmps ps assign body w.heap.size .ready)) := by
    rw [← hW1]
    have := World.alloc_heap_new (w.alloc (.deferred (some []))) (.loop (recOf fn a.tmps ps assign body w.heap.size .ready)); rwa [World.size_alloc] at this
  refine ⟨w.heap.size + 1, [{ target := .collected w.heap.size, args := #[] }], W1, { target := .fn (.func gf) lb, args := #[.func (.yield (w.heap.size + 1)) #[] #[]] }, W1, gf,
    #[.func (.yield (w.heap.size + 1)) #[] #[]] ++ lb, W1, ?_, ?_, ?_, ?_, (fun h => by cases h), ?_⟩
  · rw [← hW1]; exact run_enterLoop_outer _ _ _ _ _
  · simp only [resolve, hg]
    simp [go_sem]
  · intro f' _; trivial
  · simp [invoke, go_sem, eg]
  · have hD : W1.heap[w.heap.size]? = some (.deferred (some [])) := by
      rw [← hW1]; exact (Below.heap_alloc _ _ _ (by simp)).trans (World.alloc_heap_new w _)
    refine (hcall fn W1 (by rw [← hW1]; exact ((Below.refl _ w).alloc (Nat.le_refl _) _).alloc (by simp) _) (by rw [← hW1]; simp) hD hL).mono ?_
    rintro e W3 ⟨⟨v, rfl⟩, hl3, hR⟩
    rw [hL] at hl3
    refine ⟨none, _, run_endLoop hl3 (by simp [recOf]), ?_⟩
    exact hdone W3 _ hR

/-- One round: the assignment to the loop's variable, then the body, which comes to its end. -/
theorem yield_round {fn : FuncId} {tmps : Array Value} {ps : Array Tmp} {assign body : Code} {D l : Nat} {W : World} {args : Array Value} {R : World → Prop}
    (hl : W.heap[l]? = some (.loop (recOf fn tmps ps assign body D .ready))) (hps : args.size = ps.size)
    (h : assign.wpIn (Fence.wide.inRound l) n P (Exit.then (fun a₁ w₁ => w₁.heap[l]? = some (.loop (recOf fn tmps ps assign body D .ready)) ∧
        body.wpIn (Fence.wide.inRound l) n P (fun e _ W3 => e = .normal ∧ W3.heap[l]? = some (.loop (recOf fn tmps ps assign body D .busy)) ∧ R (W3.putObj l (.loop (recOf fn tmps ps assign body D .ready)))) a₁ (w₁.putObj l (.loop (recOf fn tmps ps assign body D .busy))))
      (fun _ _ _ => False)) { tmps := (ps.zip args).foldl (fun t (p, v) => t.setIfInBounds p v) tmps, defers := [] } W) :
    YieldAt Fence.wide n P l args W fun e W' => e = .returned (.bool true) ∧ R W' := by
  have hy := run_yield (P := P) (args := args) hl hps
  refine ⟨fn, _, assign, body, hy, roundIn_of_wpIn trivial ?_⟩
  refine wpIn_mono h ?_
  rintro e a₁ w₁ hp
  cases e with
  | normal =>
    obtain ⟨hl1, hb⟩ := hp
    refine ⟨_, run_beginRound hl1 rfl, ?_⟩
    refine wpIn_mono hb ?_
    rintro e a3 W3 ⟨rfl, hl3, hR⟩
    exact ⟨_, _, run_endRound (P := P) none hl3, rfl, hR⟩
  | _ => exact hp
/-- The same, the record under two names. -/
theorem yield_round' {fn : FuncId} {tmps : Array Value} {ps : Array Tmp} {assign body : Code} {D l : Nat} {W : World} {args : Array Value} {R : World → Prop}
    (hl : W.heap[l]? = some (.loop (recOf fn tmps ps assign body D .ready))) (hps : args.size = ps.size)
    (h : ∀ RR RB : Obj, W.heap[l]? = some RR → assign.wpIn (Fence.wide.inRound l) n P (Exit.then (fun a₁ w₁ => w₁.heap[l]? = some RR ∧
        body.wpIn (Fence.wide.inRound l) n P (fun e _ W3 => e = .normal ∧ W3.heap[l]? = some RB ∧ R (W3.putObj l RR)) a₁ (w₁.putObj l RB))
      (fun _ _ _ => False)) { tmps := (ps.zip args).foldl (fun t (p, v) => t.setIfInBounds p v) tmps, defers := [] } W) :
    YieldAt Fence.wide n P l args W fun e W' => e = .returned (.bool true) ∧ R W' :=
  yield_round hl hps (h _ _ hl)
end Go.Proofs.YtcmkjgodgocdfaaDoor
/- A region that draws its order, whose operations but the last only read: in every order the last one comes last, and the others are as if in the order of the text. In a round of a range over a function, too. -/
namespace Go.Proofs.YtcmkjgodgocdfaaDoor
open Go.RowKit
variable {n : Nat} {P : Program}

theorem wpIn_of_quiet {o : Oper} {l : Nat} {a : Act} {C : World → Prop} {K : Act → Prop} {K' : Act → World → Prop} {Q : Exit → Act → World → Prop} {w : World} (hd : ∀ c, o.op ≠ .defer c) (hw : C w)
    (h : ∀ a w', C w' → K a → K' a w') (hh : o.quiet P a C K) : o.wpIn (Fence.wide.inRound l) n P a w K' Q := by
  obtain ⟨v, h1, h2⟩ := hh
  have h3 := h1 w hw
  unfold Oper.quietAt at h3
  unfold Oper.wpIn
  refine ⟨fun _ _ => trivial, ?_⟩
  rw [Oper.semAt_plain (Fence.wide.inRound l) _ o hd]
  generalize (execOp a.eval o).run P w = r at *
  cases r with
  | ok x w' =>
    cases x <;> simp only [Oper.quietUpon, Oper.uponIn] at h3 ⊢
    case value u => obtain ⟨rfl, rfl⟩ := h3; exact h _ _ hw h2
    case skip => obtain ⟨rfl, rfl⟩ := h3; exact h _ _ hw h2
    case enter f args =>
      obtain ⟨rfl, h3⟩ := h3
      refine ⟨fun e => (by cases e), CallsIn.inRound l (callsIn_wide.2 (h3.mono ?_))⟩
      rintro e w'' ⟨rfl, hc⟩
      exact h _ _ hc h2
  | halt x w' => exact h3.elim

/-- Each operation ahead of the last has one behind it that waits for it. -/
def covers (ops : Array Oper) : Bool := (List.range (ops.size - 1)).all fun i => (List.range ops.size).any fun j => decide (i < j) && (((ops[j]?).map (·.after.any fun e => Region.binds .any e && e.on == i)).getD false)
/-- No operation is guarded, defers or selects. -/
def plainOps (ops : Array Oper) : Bool := ops.all fun o => o.guard.isNone && (match o.op with | .defer _ => false | .select _ _ => false | _ => true)

structure Shut (ops : Array Oper) (L : Nat) (listed : Array Bool) : Prop where
  size : listed.size = L
  shut : ∀ i, listed.getD i false = true → ∀ o, ops[i]? = some o → ∀ e ∈ o.after, Region.binds .any e = true → e.on < L → listed.getD e.on false = true

theorem getD_push (l : Array Bool) (i : Nat) (d : Bool) (h : i ≠ l.size) : (l.push false).getD i d = l.getD i d := by
  simp only [Array.getD_eq_getD_getElem?, Array.getElem?_push, if_neg h]

theorem listed_all {ops : Array Oper} {L : Nat} (hL : ops.size = L + 1) (hc : covers ops = true) {listed : Array Bool} (hs : Shut ops L listed)
    (hlast : ∀ o, ops[L]? = some o → ∀ e ∈ o.after, Region.binds .any e = true → e.on < L → listed.getD e.on false = true) : ∀ k i, L - i ≤ k → i < L → listed.getD i false = true := by
  have hcov : ∀ i, i < L → ∃ j, j ≤ L ∧ i < j ∧ ∃ o, ops[j]? = some o ∧ ∃ e ∈ o.after, Region.binds .any e = true ∧ e.on = i := fun i hi => by
    unfold covers at hc
    rw [List.all_eq_true] at hc
    have := hc i (by simp; omega)
    rw [List.any_eq_true] at this
    obtain ⟨j, hj, hb⟩ := this
    simp only [Bool.and_eq_true, decide_eq_true_eq] at hb
    obtain ⟨hij, hb⟩ := hb
    cases ho : ops[j]? with
    | none => rw [ho] at hb; simp at hb
    | some o =>
      rw [ho] at hb
      simp only [Option.map_some, Option.getD_some, Array.any_eq_true'] at hb
      obtain ⟨e, he, hb⟩ := hb
      simp only [Bool.and_eq_true, beq_iff_eq] at hb
      exact ⟨j, by simp at hj; omega, hij, o, ho, e, he, hb⟩
  intro k
  induction k with
  | zero => intro i h1 h2; omega
  | succ k ih =>
    intro i h1 h2
    obtain ⟨j, hj, hij, o, ho, e, he, hb, rfl⟩ := hcov i h2
    by_cases hjL : j = L
    · subst hjL; exact hlast o ho e he hb h2
    · exact hs.shut j (ih j (by omega) (by omega)) o ho e he hb h2

/-- Every operation waits for earlier ones alone. -/
def topo (ops : Array Oper) : Bool := (List.range ops.size).all fun i => ((ops[i]?).map (·.after.all fun e => decide (e.on < i))).getD true

theorem getD_push_false (l : Array Bool) (i : Nat) : (l.push false).getD i false = l.getD i false := by
  by_cases h : i = l.size
  · subst h; simp
  · exact getD_push l i false h

theorem mem_ready {ops : Array Oper} {listed : Array Bool} {i : Nat} : i ∈ Region.ready .any ops listed ↔ i < ops.size ∧ listed.getD i true = false ∧ ∃ o, ops[i]? = some o ∧ ∀ e ∈ o.after, Region.binds .any e = true → listed.getD e.on false = true := by
  unfold Region.ready
  rw [List.mem_filter, List.mem_range, Bool.and_eq_true, Bool.not_eq_true']
  constructor
  · rintro ⟨h1, h2, h3⟩
    refine ⟨h1, h2, ?_⟩
    cases ho : ops[i]? with
    | none => rw [ho] at h3; simp at h3
    | some o =>
      rw [ho] at h3
      refine ⟨o, rfl, fun e he hb => ?_⟩
      simp only [Option.map_some, Option.getD_some, Array.all_eq_true'] at h3
      have := h3 e he
      rw [hb] at this; simpa using this
  · rintro ⟨h1, h2, o, ho, h3⟩
    refine ⟨h1, h2, ?_⟩
    rw [ho]
    simp only [Option.map_some, Option.getD_some, Array.all_eq_true']
    intro e he
    cases hb : Region.binds .any e with
    | false => rfl
    | true => simpa using h3 e he hb

section
variable {l L : Nat} {ops : Array Oper} {C : World → Prop} {Qf : Act → Prop} {Q : Exit → Act → World → Prop}

theorem ready_pop (hL : ops.size = L + 1) {listed : Array Bool} (hs : listed.size = L) {i : Nat} (hi : i < L) : i ∈ Region.ready .any ops (listed.push false) ↔ i ∈ Region.ready .any ops.pop listed := by
  rw [mem_ready, mem_ready]
  have e : ops.pop[i]? = ops[i]? := by rw [Array.getElem?_pop, if_pos (by omega)]
  rw [e, getD_push listed i true (by omega)]
  simp only [getD_push_false, Array.size_pop, hL]
  constructor
  · rintro ⟨_, r⟩; exact ⟨by omega, r⟩
  · rintro ⟨_, r⟩; exact ⟨by omega, r⟩

theorem all_of_none (hL : ops.size = L + 1) (ht : topo ops = true) {listed : Array Bool} (hs : listed.size = L) (hr : Region.ready .any ops.pop listed = []) : ∀ i, i < L → listed.getD i false = true := by
  intro i
  induction i using Nat.strongRecOn with
  | ind i ih =>
    intro hi
    cases hv : listed.getD i false with
    | true => rfl
    | false =>
      have hin : i ∈ Region.ready .any ops.pop listed := by
        rw [mem_ready]
        have ho : ops.pop[i]? = some ops[i] := by rw [Array.getElem?_pop, if_pos (by omega), Array.getElem?_eq_getElem (by omega)]
        refine ⟨by simp; omega, ?_, ops[i], ho, fun e he _ => ?_⟩
        · rw [Array.getD_eq_getD_getElem?, Array.getElem?_eq_getElem (by omega)] at hv ⊢; exact hv
        · unfold topo at ht
          rw [List.all_eq_true] at ht
          have := ht i (by simp; omega)
          rw [Array.getElem?_eq_getElem (by omega)] at this
          simp only [Option.map_some, Option.getD_some, Array.all_eq_true', decide_eq_true_eq] at this
          have := this e he
          exact ih e.on this (by omega)
      rw [hr] at hin; cases hin

theorem ready_none_of_all {listed : Array Bool} (hs : listed.size = ops.size) (h : ∀ i, i < ops.size → listed.getD i false = true) : Region.ready .any ops listed = [] := by
  rw [List.eq_nil_iff_forall_not_mem]
  intro i hi
  rw [mem_ready] at hi
  have := h i hi.1
  have h2 := hi.2.1
  rw [Array.getD_eq_getD_getElem?, Array.getElem?_eq_getElem (by omega)] at this h2
  simp at this h2
  rw [this] at h2; cases h2

theorem wpAnyIn_last (hL : ops.size = L + 1) (hc : covers ops = true) (ht : topo ops = true) (hp : plainOps ops = true)
    (hfin : ∀ a w, C w → Qf a → wpOpIn (Fence.wide.inRound l) n P ops Q L (fun a' w' => Q .normal a' w') a w) :
    ∀ (fuel : Nat) (listed : Array Bool) (a : Act) (w : World), C w → Shut ops L listed → wpAnyQ P .any ops.pop C Qf fuel listed a → wpAnyIn (Fence.wide.inRound l) n P .any ops Q (fuel + 1) (listed.push false) a w := by
  have plain : ∀ (i : Nat) (o : Oper), ops[i]? = some o → o.guard = none ∧ ∀ c, o.op ≠ .defer c := fun i o ho => by
    unfold plainOps at hp
    rw [Array.all_eq_true'] at hp
    have := hp o (Array.mem_of_getElem? ho)
    simp only [Bool.and_eq_true, Option.isNone_iff_eq_none] at this
    refine ⟨this.1, fun c hc => ?_⟩
    rw [hc] at this; simp at this
  have last : ∀ fuel listed a w, C w → Shut ops L listed → Region.ready .any ops.pop listed = [] → Qf a → wpAnyIn (Fence.wide.inRound l) n P .any ops Q (fuel + 1) (listed.push false) a w := fun fuel listed a w hw hs hr hq => by
    have hall := all_of_none hL ht hs.size hr
    have hrd : ∀ i, i ∈ Region.ready .any ops (listed.push false) → i = L := fun i hi => by
      have h1 := (mem_ready.1 hi).1
      by_cases h : i < L
      · rw [ready_pop hL hs.size h, hr] at hi; cases hi
      · omega
    have hLr : L ∈ Region.ready .any ops (listed.push false) := by
      rw [mem_ready]
      refine ⟨by omega, ?_, ops[L], by rw [Array.getElem?_eq_getElem (by omega)], fun e he _ => ?_⟩
      · have := hs.size; subst this; simp
      · unfold topo at ht
        rw [List.all_eq_true] at ht
        have := ht L (by simp; omega)
        rw [Array.getElem?_eq_getElem (by omega)] at this
        simp only [Option.map_some, Option.getD_some, Array.all_eq_true', decide_eq_true_eq] at this
        rw [getD_push_false]
        exact hall _ (this e he)
    refine ⟨fun h0 => (by rw [h0] at hLr; cases hLr), fun i hi => ?_⟩
    obtain rfl := hrd i hi
    refine wpOpIn_mono (fun a' w' hq' => wpAnyIn_done ?_ hq' _) (hfin a w hw hq)
    refine ready_none_of_all (by simp [hs.size, hL]) (fun j hj => ?_)
    have hsz := hs.size
    by_cases e : j = i
    · subst e; simp [Array.getD_eq_getD_getElem?, hsz]
    · have := hall j (by omega)
      rw [Array.getD_eq_getD_getElem?, Array.getElem?_setIfInBounds, if_neg (Ne.symm e), Array.getElem?_push, if_neg (by omega), ← Array.getD_eq_getD_getElem?]
      exact this
  intro fuel
  induction fuel with
  | zero => intro listed a w hw hs h; exact last 0 listed a w hw hs h.1 h.2
  | succ fuel ih =>
    intro listed a w hw hs h
    by_cases hr : Region.ready .any ops.pop listed = []
    · exact last _ listed a w hw hs hr (h.1 hr)
    · have hnL : L ∉ Region.ready .any ops (listed.push false) := fun hi => hr (by
        obtain ⟨_, _, o, ho, hdep⟩ := mem_ready.1 hi
        have hall := listed_all hL hc hs (fun o' ho' e he hb _ => by
          rw [ho] at ho'; cases ho'
          have := hdep e he hb
          rwa [getD_push_false] at this)
        refine ready_none_of_all (by simp [hs.size, hL]) (fun i hi => ?_)
        simp [hL] at hi
        exact hall L i (by omega) hi)
      refine ⟨fun h0 => ?_, fun i hi => ?_⟩
      · exfalso
        obtain ⟨i, hi⟩ := List.exists_mem_of_ne_nil _ hr
        have hiL : i < L := by have := (mem_ready.1 hi).1; simp at this; omega
        rw [← ready_pop hL hs.size hiL, h0] at hi; cases hi
      · have hiL : i < L := by
          have h1 := (mem_ready.1 hi).1
          have h2 : i ≠ L := fun e => hnL (e ▸ hi)
          omega
        have hi' := (ready_pop hL hs.size hiL).1 hi
        obtain ⟨_, hun, o, ho, hdep⟩ := mem_ready.1 hi'
        have ho2 : ops[i]? = some o := by rw [← ho, Array.getElem?_pop, if_pos (by omega)]
        have hq := h.2 i hi'
        unfold qOp at hq
        rw [ho] at hq
        obtain ⟨hg, hd⟩ := plain i o ho2
        have hwant : ∀ (os : Array Oper), Region.wanted o (yielded os a.tmps) = true := fun os => by simp [Region.wanted, hg]
        simp only [hwant, if_true] at hq
        unfold wpOpIn
        rw [ho2]
        simp only [hwant, if_true]
        refine wpIn_of_quiet hd hw (fun a' w' hw' hk => ?_) hq
        rw [show (listed.push false).setIfInBounds i true = (listed.setIfInBounds i true).push false by
          apply Array.ext_getElem?
          intro j
          have hsz := hs.size
          simp only [Array.getElem?_setIfInBounds, Array.getElem?_push, Array.size_push, Array.size_setIfInBounds]
          by_cases e : i = j
          · subst e; simp [show i < listed.size by omega, show ¬ i = listed.size by omega, show i < listed.size + 1 by omega]
          · simp [e]]
        refine ih _ a' w' hw' ⟨by simp [hs.size], fun j hj o' ho' e he hb hlt => ?_⟩ hk
        have hsz := hs.size
        have key : ∀ q, (listed.setIfInBounds i true).getD q false = if q = i then true else listed.getD q false := fun q => by
          rw [Array.getD_eq_getD_getElem?, Array.getElem?_setIfInBounds]
          by_cases e : i = q
          · subst e; simp [show i < listed.size by omega]
          · rw [if_neg e, if_neg (Ne.symm e), Array.getD_eq_getD_getElem?]
        rw [key] at hj ⊢
        by_cases eq : e.on = i
        · rw [if_pos eq]
        · rw [if_neg eq]
          by_cases ej : j = i
          · subst ej; rw [ho2] at ho'; cases ho'; exact hdep e he hb
          · rw [if_neg ej] at hj; exact hs.shut j hj o' ho' e he hb hlt

/-- **The region, in a round.** -/
theorem wpIn_region_last {id : Nat} {a : Act} {w : World} {rs : List Oper} {o : Oper} (hm : P.follows .mixedOrders = true) (hB : Region.lexB .any rs.toArray = true)
    (hc : covers (rs ++ [o]).toArray = true) (ht : topo (rs ++ [o]).toArray = true) (hp : plainOps (rs ++ [o]).toArray = true)
    (h : wpQuiet P rs.toArray (fun w' => ∃ k, w' = w.drewN k) (fun a' => ∀ k, wpOpIn (Fence.wide.inRound l) n P (rs ++ [o]).toArray Q rs.length (fun a' w' => Q .normal a' w') a' (w.drewN k)) rs a) :
    (Code.region id (rs ++ [o]).toArray true).wpIn (Fence.wide.inRound l) n P Q a w := by
  refine wpIn_region_any hm ?_
  simp only [Region.lexB, Bool.and_eq_true] at hB
  have hq := wpAnyQ_lex (P := P) (C := fun w' => ∃ k, w' = w.drewN k) (md := .any) hB.1 rs 0 (Array.replicate rs.length false) a (by simp) (by simpa using hB.2) h
  have := wpAnyIn_last (l := l) (n := n) (P := P) (L := rs.length) (ops := (rs ++ [o]).toArray) (Q := Q) (C := fun w' => ∃ k, w' = w.drewN k) (Qf := fun a' => ∀ k, wpOpIn (Fence.wide.inRound l) n P (rs ++ [o]).toArray Q rs.length (fun a' w' => Q .normal a' w') a' (w.drewN k))
    (by simp) hc ht hp (fun a w' hw hq => by obtain ⟨k, rfl⟩ := hw; exact hq k) rs.length (Array.replicate rs.length false) a (w.drewN 1) ⟨1, rfl⟩
    ⟨by simp, fun i hi => by
      exfalso
      rw [Array.getD_eq_getD_getElem?, Array.getElem?_replicate] at hi
      split at hi <;> simp at hi⟩ (by simpa using hq)
  have e : (Array.replicate rs.length false).push false = Array.replicate (rs ++ [o]).toArray.size false := by simp [Array.replicate_succ]
  rw [e] at this
  have hs : (rs ++ [o]).toArray.size = rs.length + 1 := by simp
  rw [hs]
  rw [hs] at this
  exact this
/-- The same of a list that is written out. -/
theorem wpIn_region_last_lit {id : Nat} {a : Act} {w : World} {ls : List Oper} (hne : ls ≠ []) (hm : P.follows .mixedOrders = true) (hB : Region.lexB .any ls.dropLast.toArray = true)
    (hc : covers ls.toArray = true) (ht : topo ls.toArray = true) (hp : plainOps ls.toArray = true)
    (h : wpQuiet P ls.dropLast.toArray (fun w' => ∃ k, w' = w.drewN k) (fun a' => ∀ k, wpOpIn (Fence.wide.inRound l) n P ls.toArray Q (ls.length - 1) (fun a' w' => Q .normal a' w') a' (w.drewN k)) ls.dropLast a) :
    (Code.region id ls.toArray true).wpIn (Fence.wide.inRound l) n P Q a w := by
  have e := List.dropLast_concat_getLast hne
  have hl : ls.dropLast.length = ls.length - 1 := by simp
  have := wpIn_region_last (l := l) (n := n) (P := P) (Q := Q) (id := id) (a := a) (w := w) (rs := ls.dropLast) (o := ls.getLast hne) hm hB (by rw [e]; exact hc) (by rw [e]; exact ht) (by rw [e]; exact hp) (by rw [e, hl]; exact h)
  rwa [e] at this
/-- A whole row is loaded, quietly. -/
theorem wpQuiet_load_row {C : World → Prop} {Q : Act → Prop} {a : Act} {o : Oper} {rest : List Oper} (hgd : o.guard = none) (ty : TypeId) (x : Operand) (ho : o.op = .load ty x) (ad : Addr) (hx : a.eval x = .pointer (some ad)) (cs : Array Value)
    (hrun : ∀ w, C w → (Instr.loadAt ty (.pointer (some ad))).run P w = .ok (.agg cs) w) (h : wpQuiet P ops C Q rest (a.put o.dst (.agg cs))) : wpQuiet P ops C Q (o :: rest) a := by
  refine wpQuiet_step fun K hK => ?_
  have hw : Region.wanted o (yielded ops a.tmps) = true := by simp [Region.wanted, hgd]
  rw [if_pos hw]
  refine ⟨.agg cs, fun w hw => ?_, hK _ h⟩
  unfold Oper.quietAt execOp
  simp only [ho, hx, hrun w hw, Sem.run_bind, Sem.run_pure, Result.andThen_ok]
  exact ⟨rfl, rfl⟩
end
end Go.Proofs.YtcmkjgodgocdfaaDoor
