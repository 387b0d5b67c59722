/- What the document says of SHA-256, as plain functions of words and bytes; nothing of the program stands here. -/
import Derived.Test.YtcmkjgodgocdfaaDoorBv
namespace Go.Proofs.YtcmkjgodgocdfaaDoor

/-- What 'read' makes of bytes, eight bits each. -/
def rd (l : List UInt8) : Wd := l.foldl (fun n b => (n <<< 8) ||| zx b) 0
theorem rd_snoc (l : List UInt8) (b : UInt8) : rd (l ++ [b]) = (rd l <<< 8) ||| zx b := by simp [rd]
theorem take_snoc' (l : List UInt8) (k : Nat) (h : k < l.length) : l.take (k + 1) = l.take k ++ [l[k]?.getD 0] := by
  rw [List.take_succ_eq_append_getElem h]; simp [h]


def s0 (x : Wd) : Wd := x.rotateRight 7 ^^^ x.rotateRight 18 ^^^ x >>> 3
def s1 (x : Wd) : Wd := x.rotateRight 17 ^^^ x.rotateRight 19 ^^^ x >>> 10
def S0 (x : Wd) : Wd := x.rotateRight 2 ^^^ x.rotateRight 13 ^^^ x.rotateRight 22
def S1 (x : Wd) : Wd := x.rotateRight 6 ^^^ x.rotateRight 11 ^^^ x.rotateRight 25

/-- Four bytes of a block, from 4 * k on. -/
def four (bs : List UInt8) (k : Nat) : List UInt8 := (bs.drop (4 * k)).take 4
def wnext (bs : List UInt8) (l : List Wd) (k : Nat) : Wd :=
  if k < 16 then rd (four bs k) else l[k - 16]?.getD 0 + s0 (l[k - 15]?.getD 0) + l[k - 7]?.getD 0 + s1 (l[k - 2]?.getD 0)
/-- The first k words that come of a block. -/
def wds (bs : List UInt8) : Nat → List Wd
  | 0 => []
  | k + 1 => wds bs k ++ [wnext bs (wds bs k) k]
theorem wds_length (bs : List UInt8) : ∀ k, (wds bs k).length = k
  | 0 => rfl
  | k + 1 => by simp [wds, wds_length bs k]
/-- Word j of a block. -/
def Wat (bs : List UInt8) (j : Nat) : Wd := (wds bs 64)[j]?.getD 0
theorem wds_prefix (bs : List UInt8) (k : Nat) : ∀ n, (wds bs (k + n)).take k = wds bs k
  | 0 => by rw [List.take_of_length_le]; · rfl
            · rw [wds_length]; omega
  | n + 1 => by
    show (wds bs (k + n) ++ [wnext bs (wds bs (k + n)) (k + n)]).take k = _
    rw [List.take_append_of_le_length (by rw [wds_length]; omega)]
    exact wds_prefix bs k n
theorem wds_get (bs : List UInt8) (j k : Nat) (h : j < k) (hk : k ≤ 64) : (wds bs k)[j]?.getD 0 = Wat bs j := by
  unfold Wat
  have := wds_prefix bs k (64 - k)
  rw [show k + (64 - k) = 64 by omega] at this
  rw [← this, List.getElem?_take_of_lt h]
theorem Wat_next (bs : List UInt8) (k : Nat) (h : k < 64) : Wat bs k = wnext bs (wds bs k) k := by
  rw [← wds_get bs k (k + 1) (by omega) (by omega)]
  show ((wds bs k ++ [wnext bs (wds bs k) k])[k]?).getD 0 = _
  rw [List.getElem?_append_right (by rw [wds_length]; omega), wds_length]
  simp
theorem Wat_lo (bs : List UInt8) (k : Nat) (h : k < 16) : Wat bs k = rd (four bs k) := by
  rw [Wat_next bs k (by omega), wnext, if_pos h]
theorem Wat_hi (bs : List UInt8) (k : Nat) (h0 : 16 ≤ k) (h : k < 64) : Wat bs k = Wat bs (k - 16) + s0 (Wat bs (k - 15)) + Wat bs (k - 7) + s1 (Wat bs (k - 2)) := by
  rw [Wat_next bs k h, wnext, if_neg (by omega), wds_get bs _ k (by omega) (by omega), wds_get bs _ k (by omega) (by omega), wds_get bs _ k (by omega) (by omega), wds_get bs _ k (by omega) (by omega)]

structure St where
  a : Wd
  b : Wd
  c : Wd
  d : Wd
  e : Wd
  f : Wd
  g : Wd
  h : Wd

def cubeList : List Nat := [1116352408, 1899447441, 3049323471, 3921009573, 961987163, 1508970993, 2453635748, 2870763221, 3624381080, 310598401, 607225278, 1426881987, 1925078388, 2162078206, 2614888103, 3248222580, 3835390401, 4022224774, 264347078, 604807628, 770255983, 1249150122, 1555081692, 1996064986, 2554220882, 2821834349, 2952996808, 3210313671, 3336571891, 3584528711, 113926993, 338241895, 666307205, 773529912, 1294757372, 1396182291, 1695183700, 1986661051, 2177026350, 2456956037, 2730485921, 2820302411, 3259730800, 3345764771, 3516065817, 3600352804, 4094571909, 275423344, 430227734, 506948616, 659060556, 883997877, 958139571, 1322822218, 1537002063, 1747873779, 1955562222, 2024104815, 2227730452, 2361852424, 2428436474, 2756734187, 3204031479, 3329325298]
def cubeW (k : Nat) : Wd := BitVec.ofNat 32 (cubeList[k]?.getD 0)
def squareList : List Nat := [1779033703, 3144134277, 1013904242, 2773480762, 1359893119, 2600822924, 528734635, 1541459225]
def squareW (k : Nat) : Wd := BitVec.ofNat 32 (squareList[k]?.getD 0)
def rndT (s : St) (k w : Wd) : Wd := s.h + S1 s.e + ((s.e &&& s.f) ^^^ (~~~s.e &&& s.g)) + k + w
def rndU (s : St) : Wd := S0 s.a + ((s.a &&& s.b) ^^^ (s.a &&& s.c) ^^^ (s.b &&& s.c))
def rnd (s : St) (k w : Wd) : St := ⟨rndT s k w + rndU s, s.a, s.b, s.c, s.d + rndT s k w, s.e, s.f, s.g⟩
def rnds (s : St) (bs : List UInt8) : Nat → St
  | 0 => s
  | k + 1 => rnd (rnds s bs k) (cubeW k) (Wat bs k)
/-- The state behind a block. -/
def comp (s : St) (bs : List UInt8) : St :=
  let r := rnds s bs 64
  ⟨s.a + r.a, s.b + r.b, s.c + r.c, s.d + r.d, s.e + r.e, s.f + r.f, s.g + r.g, s.h + r.h⟩
def St.get (s : St) : Nat → Wd
  | 0 => s.a | 1 => s.b | 2 => s.c | 3 => s.d | 4 => s.e | 5 => s.f | 6 => s.g | _ => s.h
def St.cells (s : St) : List Value := (List.range 8).map fun i => .int .u32 (wv (s.get i))

/-- Byte j of a state's digest. -/
def digB (s : St) (j : Nat) : UInt8 := lo (s.get (j / 4) >>> (8 * (3 - j % 4)))
def digL (s : St) : List UInt8 := (List.range 32).map (digB s)
theorem digL_length (s : St) : (digL s).length = 32 := by simp [digL]
theorem digL_get (s : St) (j : Nat) (h : j < 32) : (digL s)[j]? = some (digB s j) := by simp [digL, h]
/-- The state behind the first n blocks of bytes. -/
def stN (m : List UInt8) : Nat → St
  | 0 => ⟨squareW 0, squareW 1, squareW 2, squareW 3, squareW 4, squareW 5, squareW 6, squareW 7⟩
  | n + 1 => comp (stN m n) ((m.drop (64 * n)).take 64)
theorem stN_append (m l : List UInt8) : ∀ n, 64 * n ≤ m.length → stN (m ++ l) n = stN m n
  | 0, _ => rfl
  | n + 1, h => by
    show comp (stN (m ++ l) n) _ = comp (stN m n) _
    rw [stN_append m l n (by omega), List.drop_append_of_le_length (by omega), List.take_append_of_le_length (by simp; omega)]
/-- What is laid behind so many bytes. -/
def tailL (n : Nat) : List UInt8 := 128 :: (List.replicate ((119 - n % 64) % 64) 0 ++ (List.range 8).map fun j => UInt8.ofNat (n * 8 / 256 ^ (7 - j)))
theorem tailL_length (n : Nat) : (tailL n).length = 9 + (119 - n % 64) % 64 := by simp [tailL]; omega
theorem tail_whole (n : Nat) : (n + (tailL n).length) % 64 = 0 := by rw [tailL_length]; omega
/-- The digest of bytes. -/
def shaL (m : List UInt8) : List UInt8 := digL (stN (m ++ tailL m.length) ((m ++ tailL m.length).length / 64))
end Go.Proofs.YtcmkjgodgocdfaaDoor
