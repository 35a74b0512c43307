/- Plain facts, with no walk in them: Go's uint32 and uint8 as numbers, the rounds of SHA-256 and the CRC as functions on lists, and what they come to at the two texts that every statement asks for. Nothing here is assumed. -/
import Derived.WalkKit
import Derived.Laws.BitsAll
namespace Go.Proofs.Ytdfnhgkabaikaaa
/-- A uint32, a uint8 as the model's number. -/
def U (x : UInt32) : Int := (x.toNat : Int)
def V (x : UInt8) : Int := (x.toNat : Int)
theorem U_nonneg (x : UInt32) : 0 ≤ U x := Int.natCast_nonneg _
theorem U_lt (x : UInt32) : U x < 4294967296 := by have := x.toNat_lt; unfold U; omega
theorem V_nonneg (x : UInt8) : 0 ≤ V x := Int.natCast_nonneg _
theorem V_lt (x : UInt8) : V x < 256 := by have := x.toNat_lt; unfold V; omega
theorem U_inj {a b : UInt32} (h : U a = U b) : a = b := UInt32.toNat_inj.1 (by unfold U at h; omega)
theorem V_inj {a b : UInt8} (h : V a = V b) : a = b := UInt8.toNat_inj.1 (by unfold V at h; omega)
theorem U_add (a b : UInt32) : IntKind.u32.wrap (U a + U b) = U (a + b) := by
  rw [IntKind.wrap_u32']; unfold U; rw [UInt32.toNat_add]; omega
theorem U_xor (a b : UInt32) : bits .xor .u32 (U a) (U b) = U (a ^^^ b) := by
  unfold U; rw [u32_xor_nat _ _ a.toNat_lt b.toNat_lt, UInt32.toNat_xor]
theorem U_and (a b : UInt32) : bits .and .u32 (U a) (U b) = U (a &&& b) := by
  unfold U; rw [u32_and_nat _ _ a.toNat_lt b.toNat_lt, UInt32.toNat_and]
theorem U_or (a b : UInt32) : bits .or .u32 (U a) (U b) = U (a ||| b) := by
  unfold U; rw [u32_or_nat _ _ a.toNat_lt b.toNat_lt, UInt32.toNat_or]
theorem U_ones : (4294967295 : Int) = U 4294967295 := rfl
theorem U_not (a : UInt32) : bits .xor .u32 4294967295 (U a) = U (~~~a) := by
  rw [U_ones, U_xor]; congr 1
theorem U_not' (a : UInt32) : bits .xor .u32 IntKind.u32.max (U a) = U (~~~a) := U_not a
theorem U_wrap (a : UInt32) : IntKind.u32.wrap (U a) = U a := by rw [IntKind.wrap_u32']; have := U_nonneg a; have := U_lt a; omega
theorem V_wrap (a : UInt8) : IntKind.u8.wrap (V a) = V a := by rw [IntKind.wrap_u8']; have := V_nonneg a; have := V_lt a; omega
theorem V_up (a : UInt8) : IntKind.u32.wrap (V a) = U a.toUInt32 := by
  rw [IntKind.wrap_u32']; unfold U V; rw [UInt8.toNat_toUInt32]; have := a.toNat_lt; omega
theorem U_down (a : UInt32) : IntKind.u8.wrap (U a) = V a.toUInt8 := by
  rw [IntKind.wrap_u8']; unfold U V; rw [UInt32.toNat_toUInt8]; omega
theorem V_of (a : UInt8) : V a = U a.toUInt32 := by unfold U V; rw [UInt8.toNat_toUInt32]
theorem ofNat_small (k : Nat) (hk : k < 32) : (UInt32.ofNat k).toNat % 32 = k := by
  rw [UInt32.toNat_ofNat_of_lt' (by show k < 4294967296; omega)]; omega
theorem U_shl (x : UInt32) (k : Nat) (hk : k < 32) : IntKind.u32.wrap (U x * 2 ^ k) = U (x <<< UInt32.ofNat k) := by
  rw [IntKind.wrap_u32']; unfold U; rw [UInt32.toNat_shiftLeft, ofNat_small k hk, Nat.shiftLeft_eq, Int.natCast_emod, Int.natCast_mul, Int.natCast_pow]; rfl
theorem U_shr (x : UInt32) (k : Nat) (hk : k < 32) : U x / 2 ^ k = U (x >>> UInt32.ofNat k) := by
  unfold U; rw [UInt32.toNat_shiftRight, ofNat_small k hk, Nat.shiftRight_eq_div_pow, Int.natCast_ediv, Int.natCast_pow]; rfl
theorem op_add (a b : UInt32) : Op.intArith .add .u32 (U a) (U b) = pure (.int .u32 (U (a + b))) := by rw [← U_add]; rfl
theorem op_xor (a b : UInt32) : Op.intBits .xor .u32 (U a) (U b) = pure (.int .u32 (U (a ^^^ b))) := by rw [← U_xor]; rfl
theorem op_and (a b : UInt32) : Op.intBits .and .u32 (U a) (U b) = pure (.int .u32 (U (a &&& b))) := by rw [← U_and]; rfl
theorem op_or (a b : UInt32) : Op.intBits .or .u32 (U a) (U b) = pure (.int .u32 (U (a ||| b))) := by rw [← U_or]; rfl
theorem op_not (a : UInt32) : Op.intBits .xor .u32 (if IntKind.u32.signed = true then -1 else IntKind.u32.max) (U a) = pure (.int .u32 (U (~~~a))) := by
  rw [← U_not]; rfl
theorem op_shl (x : UInt32) (yk : IntKind) (y : Int) (h0 : 0 ≤ y) (h1 : y < 32) : Op.shift .shl .u32 (U x) yk y = pure (.int .u32 (U (x <<< UInt32.ofNat y.toNat))) := by
  rw [← U_shl x y.toNat (by omega), shift_shl_any _ _ _ _ h0]
  have : min y.toNat IntKind.u32.bits = y.toNat := by simp [IntKind.bits]; omega
  rw [this]
theorem op_shr (x : UInt32) (yk : IntKind) (y : Int) (h0 : 0 ≤ y) (h1 : y < 32) : Op.shift .shr .u32 (U x) yk y = pure (.int .u32 (U (x >>> UInt32.ofNat y.toNat))) := by
  rw [← U_shr x y.toNat (by omega), shift_shr_any _ _ _ _ h0]
  have : min y.toNat IntKind.u32.bits = y.toNat := by simp [IntKind.bits]; omega
  rw [this]
theorem op_up (a : UInt8) : Conv.intToInt .u32 (V a) = pure (.int .u32 (U a.toUInt32)) := by rw [← V_up]; rfl
theorem op_down (a : UInt32) : Conv.intToInt .u8 (U a) = pure (.int .u8 (V a.toUInt8)) := by rw [← U_down]; rfl
theorem V_mod (a : UInt8) : V a % 4294967296 = U a.toUInt32 := by rw [← V_up, IntKind.wrap_u32']
theorem u32_unsigned : IntKind.u32.signed = false := rfl

/-- The values. -/
abbrev W (x : UInt32) : Value := .int .u32 (U x)
abbrev B (x : UInt8) : Value := .int .u8 (V x)
theorem W_one (l : List UInt32) : ∀ v ∈ l.map W, v.oneCell' = true := by
  intro v hv; obtain ⟨x, _, rfl⟩ := List.mem_map.1 hv; rfl
theorem B_one (l : List UInt8) : ∀ v ∈ l.map B, v.oneCell' = true := by
  intro v hv; obtain ⟨x, _, rfl⟩ := List.mem_map.1 hv; rfl

/-! ### SHA-256 -/
def rotl (x : UInt32) (s : Nat) : UInt32 := x <<< UInt32.ofNat s ||| x >>> UInt32.ofNat (32 - s)
structure St where
  a : UInt32
  b : UInt32
  c : UInt32
  d : UInt32
  e : UInt32
  f : UInt32
  g : UInt32
  h : UInt32
def St.list (s : St) : List UInt32 := [s.a, s.b, s.c, s.d, s.e, s.f, s.g, s.h]
theorem St.length_list (s : St) : s.list.length = 8 := rfl
def fresh (s : St) (x : UInt32) : UInt32 := s.h + (rotl s.e 26 ^^^ rotl s.e 21 ^^^ rotl s.e 7) + (s.e &&& s.f ^^^ ~~~s.e &&& s.g) + x
def turnS (s : St) (x : UInt32) : St :=
  ⟨fresh s x + (rotl s.a 30 ^^^ rotl s.a 19 ^^^ rotl s.a 10) + (s.a &&& s.b ^^^ s.a &&& s.c ^^^ s.b &&& s.c), s.a, s.b, s.c, s.d + fresh s x, s.e, s.f, s.g⟩
def low (x : UInt32) : UInt32 := rotl x 25 ^^^ rotl x 14 ^^^ x >>> 3
def high (y : UInt32) : UInt32 := rotl y 15 ^^^ rotl y 13 ^^^ y >>> 10
def spreadS (ws : List UInt32) (t : Nat) : UInt32 := low (ws.getD ((t + 1) % 16) 0) + ws.getD ((t + 9) % 16) 0 + high (ws.getD ((t + 14) % 16) 0)
def stepW (ws : List UInt32) (t : Nat) : List UInt32 := if t < 16 then ws else ws.set (t % 16) (ws.getD (t % 16) 0 + spreadS ws t)
def kwords : List UInt32 := [1116352408, 1899447441, 3049323471, 3921009573, 961987163, 1508970993, 2453635748, 2870763221, 3624381080, 310598401, 607225278, 1426881987, 1925078388, 2162078206, 2614888103, 3248222580, 3835390401, 4022224774, 264347078, 604807628, 770255983, 1249150122, 1555081692, 1996064986, 2554220882, 2821834349, 2952996808, 3210313671, 3336571891, 3584528711, 113926993, 338241895, 666307205, 773529912, 1294757372, 1396182291, 1695183700, 1986661051, 2177026350, 2456956037, 2730485921, 2820302411, 3259730800, 3345764771, 3516065817, 3600352804, 4094571909, 275423344, 430227734, 506948616, 659060556, 883997877, 958139571, 1322822218, 1537002063, 1747873779, 1955562222, 2024104815, 2227730452, 2361852424, 2428436474, 2756734187, 3204031479, 3329325298]
def roundsS (ws : List UInt32) (v : St) : Nat → List UInt32 × St
  | 0 => (ws, v)
  | t + 1 => (stepW (roundsS ws v t).1 t, turnS (roundsS ws v t).2 (kwords.getD t 0 + (stepW (roundsS ws v t).1 t).getD (t % 16) 0))
def wordsTo (bs : List UInt8) : Nat → List UInt32
  | 0 => List.replicate 16 0
  | k + 1 => (wordsTo bs k).set (k / 4) ((wordsTo bs k).getD (k / 4) 0 <<< 8 ||| (bs.getD k 0).toUInt32)
def addS (s v : St) : St := ⟨s.a + v.a, s.b + v.b, s.c + v.c, s.d + v.d, s.e + v.e, s.f + v.f, s.g + v.g, s.h + v.h⟩
def mixS (s : St) (bs : List UInt8) : St := addS s (roundsS (wordsTo bs 64) s 64).2
def startS : St := ⟨1779033703, 3144134277, 1013904242, 2773480762, 1359893119, 2600822924, 528734635, 1541459225⟩
def blocksS (bs : List UInt8) : Nat → St
  | 0 => startS
  | k + 1 => mixS (blocksS bs k) ((bs.drop (64 * k)).take 64)
def sizeByte (n i : Nat) : UInt8 := UInt8.ofNat (8 * n / 2 ^ (8 * (7 - i)))
def padS (n : Nat) : List UInt8 := 128 :: List.replicate ((119 - n % 64) % 64) 0 ++ (List.range 8).map (sizeByte n)
def outByte (s : St) (i : Nat) : UInt8 := (s.list.getD (i / 4) 0 >>> UInt32.ofNat (24 - 8 * (i % 4))).toUInt8
def outS (s : St) : List UInt8 := (List.range 32).map (outByte s)
def sumS (bs : List UInt8) : List UInt8 := outS (blocksS (bs ++ padS bs.length) ((bs ++ padS bs.length).length / 64))
theorem length_stepW (ws : List UInt32) (t : Nat) : (stepW ws t).length = ws.length := by unfold stepW; split <;> simp
theorem length_rounds (ws : List UInt32) (v : St) (t : Nat) : (roundsS ws v t).1.length = ws.length := by
  induction t with
  | zero => rfl
  | succ t ih => rw [roundsS, length_stepW, ih]
theorem length_wordsTo (bs : List UInt8) (k : Nat) : (wordsTo bs k).length = 16 := by
  induction k with
  | zero => simp [wordsTo]
  | succ k ih => simp [wordsTo, ih]
theorem length_padS (n : Nat) : (padS n).length = 9 + (119 - n % 64) % 64 := by simp [padS]; omega
theorem length_outS (s : St) : (outS s).length = 32 := by simp [outS]
theorem length_sumS (bs : List UInt8) : (sumS bs).length = 32 := length_outS _
/-- Blocks that lie in the text's beginning hang on that alone. -/
theorem blocksS_append (bs cs : List UInt8) (k : Nat) (h : 64 * k ≤ bs.length) : blocksS (bs ++ cs) k = blocksS bs k := by
  induction k with
  | zero => rfl
  | succ k ih =>
    rw [blocksS, blocksS, ih (by omega)]
    congr 1
    rw [List.drop_append_of_le_length (by omega), List.take_append_of_le_length (by simp; omega)]

/-! ### Digits -/
def digitS (n : Nat) : UInt8 := [48, 49, 50, 51, 52, 53, 54, 55, 56, 57, 97, 98, 99, 100, 101, 102].getD n 0
def hexS (h : List UInt8) : List UInt8 := h.flatMap fun x => [digitS (x.toNat / 16), digitS (x.toNat % 16)]

/-! ### CRC-32C -/
def crcTab : List UInt32 := [0, 274646895, 549293790, 820201905, 1098587580, 1361435347, 1640403810, 1905808397, 2197175160, 2460548119, 2722870694, 2987750089, 3280807620, 3553878443, 3811616794, 4084100981]
def nib (c : UInt32) : UInt32 := c >>> 4 ^^^ crcTab.getD (c.toNat % 16) 0
def crcStep (c : UInt32) (x : UInt8) : UInt32 := nib (nib (c ^^^ x.toUInt32))
def crcRun (c : UInt32) (bs : List UInt8) : UInt32 := bs.foldl crcStep c
def crcS (bs : List UInt8) : UInt32 := ~~~crcRun 4294967295 bs

/-! ### What every statement asks of the two texts -/
theorem abc : hexS (sumS [97, 98, 99]) = [98, 97, 55, 56, 49, 54, 98, 102, 56, 102, 48, 49, 99, 102, 101, 97, 52, 49, 52, 49, 52, 48, 100, 101, 53, 100, 97, 101, 50, 50, 50, 51, 98, 48, 48, 51, 54, 49, 97, 51, 57, 54, 49, 55, 55, 97, 57, 99, 98, 52, 49, 48, 102, 102, 54, 49, 102, 50, 48, 48, 49, 53, 97, 100] := by decide +kernel
theorem nine : crcS [49, 50, 51, 52, 53, 54, 55, 56, 57] = 3808858755 := by decide +kernel
end Go.Proofs.Ytdfnhgkabaikaaa
