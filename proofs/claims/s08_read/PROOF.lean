import PyProof.Rows.All
import KE.OsGo
import KE.OsArgs
import PySem.Challenge.RW_widewhole_s08_read
set_option Elab.async false
namespace My
open PySem
theorem p127 : (2:Int) ^ 127 = 170141183460469231731687303715884105728 := by decide
theorem p127n : (2:Nat) ^ 127 = 170141183460469231731687303715884105728 := by decide
theorem W_lit : Sf02.W = 340282366920938463463374607431768211456 := by decide
/- bytes, the lowest first -/
def by8 (z : Int) (n : Nat) : List Int := (List.range n).map fun (k : Nat) => z / 256 ^ k % 256
theorem told_le (n k : Nat) : Sf02Neutral.bytesTold (Sf02.le k n) = by8 (n : Int) k := by
  unfold Sf02Neutral.bytesTold Sf02.le by8
  rw [List.map_map]
  apply List.map_congr_left
  intro i _
  show ((UInt8.ofNat (n / 256 ^ i % 256)).toNat : Int) = _
  have e : (UInt8.ofNat (n / 256 ^ i % 256)).toNat = n / 256 ^ i % 256 := by
    rw [UInt8.toNat_ofNat']; exact Nat.mod_mod _ _
  rw [e]; simp
theorem pmod (z : Int) {p m : Int} (hp : 0 < p) (hm : 0 < m) : (z % (p * m)) / p = z / p % m := by
  have hne : p ≠ 0 := by omega
  have e : z = z % (p * m) + p * (m * (z / (p * m))) := by
    have := Int.emod_add_mul_ediv z (p * m)
    rw [Int.mul_assoc] at this; omega
  have e2 : z / p = (z % (p * m)) / p + m * (z / (p * m)) := by
    conv => lhs; rw [e]
    rw [Int.add_mul_ediv_left _ _ hne]
  have h0 : 0 ≤ z % (p * m) := Int.emod_nonneg _ (by have := Int.mul_pos hp hm; omega)
  have h1 : z % (p * m) < p * m := Int.emod_lt_of_pos _ (Int.mul_pos hp hm)
  rw [e2, Int.add_mul_emod_self_left, Int.emod_eq_of_lt (Int.ediv_nonneg h0 (by omega)) (Int.ediv_lt_of_lt_mul hp (by rw [Int.mul_comm m p]; exact h1))]
theorem by8_mod (z : Int) (n : Nat) : by8 (z % 256 ^ n) n = by8 z n := by
  unfold by8
  apply List.map_congr_left
  intro k hk
  have hk' : k < n := List.mem_range.mp hk
  have e : (256:Int) ^ n = 256 ^ k * 256 ^ (n - k) := by rw [← Int.pow_add]; congr 1; omega
  have e3 : (256:Int) ^ (n - k) = 256 * 256 ^ (n - k - 1) := by
    have : n - k = (n - k - 1) + 1 := by omega
    conv => lhs; rw [this, Int.pow_succ]
    rw [Int.mul_comm]
  rw [e, pmod z (Int.pow_pos (by decide)) (Int.pow_pos (by decide)), e3, Int.emod_emod_of_dvd _ ⟨_, rfl⟩]
theorem told_bits (z : Int) : Sf02Neutral.bytesTold (Sf02.le 16 (Sf02.bits z)) = by8 z 16 := by
  rw [told_le]
  have e : ((Sf02.bits z : Nat) : Int) = z % 256 ^ 16 := by
    unfold Sf02.bits
    rw [W_lit]
    have : (256:Int) ^ 16 = 340282366920938463463374607431768211456 := by decide
    rw [this]; omega
  rw [e, by8_mod]
theorem by8_congr {z y : Int} {n : Nat} (h : z % 256 ^ n = y % 256 ^ n) : by8 z n = by8 y n := by
  rw [← by8_mod z, h, by8_mod]

def sgn (x : Int) : Int := if 170141183460469231731687303715884105728 ≤ x then x - 340282366920938463463374607431768211456 else x
def fitS (x : Int) : Bool := decide (-170141183460469231731687303715884105728 ≤ x) && decide (x < 170141183460469231731687303715884105728)
def fitP (x : Int) : Bool := decide (0 ≤ x) && decide (x < 340282366920938463463374607431768211456)
theorem mod_W {x : Int} (h0 : 0 ≤ x) (h1 : x ≤ 340282366920938463463374607431768211455) : x.toNat % Sf02.W = x.toNat := by
  rw [W_lit]; omega
theorem mod_Wi {x : Int} (h0 : 0 ≤ x) (h1 : x ≤ 340282366920938463463374607431768211455) : (((x.toNat % Sf02.W : Nat)) : Int) = x := by
  rw [W_lit]; omega
theorem signed_eq {x : Int} (h0 : 0 ≤ x) (h1 : x ≤ 340282366920938463463374607431768211455) : Sf02.signed x.toNat = sgn x := by
  have e := mod_Wi h0 h1
  unfold Sf02.signed sgn
  rw [e, p127n]
  rw [W_lit] at *
  split <;> split <;> omega
theorem fits_S (z : Int) : Sf02.fits false z = fitS z := by
  unfold Sf02.fits fitS
  rw [p127]; rfl
theorem fits_P (z : Int) : Sf02.fits true z = fitP z := by
  unfold Sf02.fits fitP
  rw [W_lit]; rfl
end My
namespace My
def dig (z : Int) : Int := if 48 ≤ z ∧ z ≤ 57 then z - 48 else if 97 ≤ z ∧ z ≤ 122 then z - 87 else if 65 ≤ z ∧ z ≤ 90 then z - 55 else 99
theorem dig_nonneg (z : Int) : 0 ≤ dig z := by unfold dig; (repeat' split) <;> omega
theorem u8_le {k : Nat} {z : Int} (hk : k < 256) (h0 : 0 ≤ z) (h1 : z ≤ 255) : (UInt8.ofNat k ≤ UInt8.ofNat z.toNat) = ((k : Int) ≤ z) := by
  apply propext
  rw [UInt8.le_iff_toNat_le, UInt8.toNat_ofNat', UInt8.toNat_ofNat']
  omega
theorem u8_ge {k : Nat} {z : Int} (hk : k < 256) (h0 : 0 ≤ z) (h1 : z ≤ 255) : (UInt8.ofNat z.toNat ≤ UInt8.ofNat k) = (z ≤ (k : Int)) := by
  apply propext
  rw [UInt8.le_iff_toNat_le, UInt8.toNat_ofNat', UInt8.toNat_ofNat']
  omega
theorem digitOf_eq {z : Int} (h0 : 0 ≤ z) (h1 : z ≤ 255) : ((Sf02.digitOf (UInt8.ofNat z.toNat) : Nat) : Int) = dig z := by
  unfold Sf02.digitOf dig
  have e : (UInt8.ofNat z.toNat).toNat = z.toNat := by rw [UInt8.toNat_ofNat']; omega
  rw [e]
  have a := u8_le (k := 48) (by decide) h0 h1
  have b := u8_ge (k := 57) (by decide) h0 h1
  have c := u8_le (k := 97) (by decide) h0 h1
  have d := u8_ge (k := 122) (by decide) h0 h1
  have f := u8_le (k := 65) (by decide) h0 h1
  have g := u8_ge (k := 90) (by decide) h0 h1
  simp only [show (48 : UInt8) = UInt8.ofNat 48 from rfl, show (57 : UInt8) = UInt8.ofNat 57 from rfl, show (97 : UInt8) = UInt8.ofNat 97 from rfl, show (122 : UInt8) = UInt8.ofNat 122 from rfl, show (65 : UInt8) = UInt8.ofNat 65 from rfl, show (90 : UInt8) = UInt8.ofNat 90 from rfl, a, b, c, d, f, g]
  (repeat' split) <;> omega
/- digits' number, and whether there is one -/
def foldD (base : Int) (l : List Int) (n : Int) : Int := l.foldl (fun n c => base * n + dig c) n
def okD (base : Int) (l : List Int) : Bool := l.all fun c => decide (dig c < base)
def num (base : Int) (l : List Int) : Option Int := if l = [] ∨ okD base l = false then none else some (foldD base l 0)
def rd (base : Int) (l : List Int) : Option Int := if l.head? = some 45 then (num base (l.drop 1)).map fun n => -n else num base l
def bytes01 (l : List Int) : Prop := ∀ z ∈ l, 0 ≤ z ∧ z ≤ 255
theorem foldD_nat {b : Int} (hb : 0 ≤ b) : ∀ (l : List Int) (n : Nat), bytes01 l → (((Sf02Neutral.bytesOf l).foldl (fun n c => b.toNat * n + Sf02.digitOf c) n : Nat) : Int) = foldD b l (n : Int)
  | [], n, _ => rfl
  | z :: r, n, h => by
    have hz := h z (List.mem_cons_self ..)
    have hr : bytes01 r := fun y hy => h y (List.mem_cons_of_mem _ hy)
    show (((Sf02Neutral.bytesOf r).foldl (fun n c => b.toNat * n + Sf02.digitOf c) (b.toNat * n + Sf02.digitOf (UInt8.ofNat z.toNat)) : Nat) : Int) = foldD b r (b * n + dig z)
    rw [foldD_nat hb r _ hr]
    congr 1
    rw [Int.natCast_add, Int.natCast_mul, digitOf_eq hz.1 hz.2, Int.toNat_of_nonneg hb]
theorem okD_nat {b : Int} (hb : 0 ≤ b) : ∀ (l : List Int), bytes01 l → (((Sf02Neutral.bytesOf l).any fun c => decide (b.toNat ≤ Sf02.digitOf c)) = true) = (okD b l = false)
  | [], _ => by simp [Sf02Neutral.bytesOf, okD]
  | z :: r, h => by
    have hz := h z (List.mem_cons_self ..)
    have hr : bytes01 r := fun y hy => h y (List.mem_cons_of_mem _ hy)
    have ih := okD_nat hb r hr
    have hd := digitOf_eq hz.1 hz.2
    have c : (b.toNat ≤ Sf02.digitOf (UInt8.ofNat z.toNat)) = ¬ (dig z < b) := by apply propext; omega
    show ((decide (b.toNat ≤ Sf02.digitOf (UInt8.ofNat z.toNat)) || (Sf02Neutral.bytesOf r).any fun c => decide (b.toNat ≤ Sf02.digitOf c)) = true) = ((decide (dig z < b) && okD b r) = false)
    rw [Bool.or_eq_true, ih, decide_eq_true_eq, c, Bool.and_eq_false_iff, decide_eq_false_iff_not]
theorem num_nat {b : Int} (hb : 0 ≤ b) {l : List Int} (h : bytes01 l) : ((Sf02.number b.toNat (Sf02Neutral.bytesOf l)).map fun (n : Nat) => (n : Int)) = num b l := by
  unfold Sf02.number num
  have e : (Sf02Neutral.bytesOf l = []) = (l = []) := by apply propext; simp [Sf02Neutral.bytesOf]
  simp only [e, okD_nat hb l h]
  split
  · rfl
  · rw [Option.map_some, foldD_nat hb l 0 h]; rfl
theorem num_lift {b : Int} (hb : 0 ≤ b) {l : List Int} (h : bytes01 l) : (do let a ← Sf02.number b.toNat (Sf02Neutral.bytesOf l); pure (a : Int)) = num b l := by
  rw [← num_nat hb h]
  cases (Sf02.number b.toNat (Sf02Neutral.bytesOf l)) <;> rfl
theorem rd_nat {b : Int} (hb : 0 ≤ b) {l : List Int} (h : bytes01 l) : Sf02.readNumber b.toNat (Sf02Neutral.bytesOf l) = rd b l := by
  unfold Sf02.readNumber rd
  cases l with
  | nil => exact num_nat hb h
  | cons z r =>
    have hz := h z (List.mem_cons_self ..)
    have hr : bytes01 r := fun y hy => h y (List.mem_cons_of_mem _ hy)
    have c : ((Sf02Neutral.bytesOf (z :: r)).head? = some 45) = ((z :: r).head? = some 45) := by
      apply propext
      show (some (UInt8.ofNat z.toNat) = some 45) ↔ (some z = some 45)
      rw [Option.some_inj, Option.some_inj, ← UInt8.toNat_inj, UInt8.toNat_ofNat']
      have : (45 : UInt8).toNat = 45 := rfl
      rw [this]; omega
    simp only [c]
    split
    · exact congrArg (Option.map fun (n : Int) => -n) (num_lift hb hr)
    · rw [← num_lift hb h]
      cases (Sf02.number b.toNat (Sf02Neutral.bytesOf (z :: r))) <;> rfl
theorem read_open (n b : Int) (l : List Int) : PySf02.read n b l = Sf02Neutral.listOf (Sf02.spec (.read (Sf02Neutral.bytesOf l) n.toNat b)) := rfl
theorem spec_read (l : List UInt8) (n : Nat) (base : Int) : Sf02.spec (.read l n base) = (if n = 0 ∨ 1000 < n ∨ Sf02.isBase base = false then Sf02.says (-1) else match Sf02.readNumber base.toNat l with
    | none => Sf02.says (-1)
    | some z => if Sf02.fits false z = true then ⟨0, [Sf02.le 16 (Sf02.bits z)]⟩ else Sf02.says (-2)) := rfl
theorem isBase_eq (b : Int) : (Sf02.isBase b = false) = ¬ (2 ≤ b ∧ b ≤ 36) := by
  apply propext; unfold Sf02.isBase; rw [Bool.and_eq_false_iff, decide_eq_false_iff_not, decide_eq_false_iff_not]; omega
theorem read_bad {n b : Int} {l : List Int} (h : n < 1 ∨ 1000 < n ∨ b < 2 ∨ 36 < b) : PySf02.read n b l = [-1] := by
  rw [read_open, spec_read, if_pos]
  · rfl
  · rw [isBase_eq]; omega
theorem read_good {n b : Int} {l : List Int} (h0 : 1 ≤ n) (h1 : n ≤ 1000) (h2 : 2 ≤ b) (h3 : b ≤ 36) (hl : bytes01 l) :
    PySf02.read n b l = match rd b l with
      | none => [-1]
      | some z => if fitS z = true then 0 :: 16 :: by8 z 16 else [-2] := by
  rw [read_open, spec_read, if_neg (by rw [isBase_eq]; omega), rd_nat (by omega) hl]
  cases rd b l with
  | none => rfl
  | some z =>
    simp only [fits_S]
    by_cases f : fitS z = true
    · rw [if_pos f, if_pos f]
      show 0 :: ((Sf02Neutral.listed (Sf02Neutral.bytesTold (Sf02.le 16 (Sf02.bits z)))) ++ []) = _
      rw [told_bits, List.append_nil]; rfl
    · rw [if_neg f, if_neg f]; rfl
end My
namespace My
open PySem PySem.W PySem.Calls PyProof.Rows
theorem bits_le {k : Int} (h1 : -115792089237316195423570985008687907853269984665640564039457584007913129639936 ≤ k) (h2 : k ≤ 115792089237316195423570985008687907853269984665640564039457584007913129639936) : Builtin.Int.intBits k ≤ 257 := by
  unfold Builtin.Int.intBits
  split
  · exact Nat.zero_le _
  · have hn : k.natAbs < 2 ^ 257 := by
      have e : (2:Nat)^257 = 231584178474632390847141970017375815706539969331281128078915168015826259279872 := by decide
      omega
    have : k.natAbs.log2 < 257 := by
      rcases Nat.eq_zero_or_pos k.natAbs with h0 | hp
      · rw [h0]; decide
      · exact (Nat.log2_lt (Nat.ne_of_gt hp)).mpr hn
    omega
theorem log_le {k : Int} (h1 : -115792089237316195423570985008687907853269984665640564039457584007913129639936 ≤ k) (h2 : k ≤ 115792089237316195423570985008687907853269984665640564039457584007913129639936) : k.natAbs.log2 < 9000 := by
  have hn : k.natAbs < 2 ^ 257 := by
    have e : (2:Nat)^257 = 231584178474632390847141970017375815706539969331281128078915168015826259279872 := by decide
    omega
  have : k.natAbs.log2 < 257 := by
    rcases Nat.eq_zero_or_pos k.natAbs with h0 | hp
    · rw [h0]; decide
    · exact (Nat.log2_lt (Nat.ne_of_gt hp)).mpr hn
  omega
theorem walk8 (z : Int) (n : Nat) : List.map (fun k' => Builtin.bitAnd (z.fdiv (2 ^ (8 * k').toNat)) 255) (rangeKs 0 n) = by8 z n := by
  unfold rangeKs by8
  rw [List.map_map]
  apply List.map_congr_left
  intro k _
  show Builtin.bitAnd (z.fdiv (2 ^ (8 * (0 + (k : Int))).toNat)) 255 = z / 256 ^ k % 256
  have e : (8 * (0 + (k : Int))).toNat = 8 * k := by omega
  have m : Builtin.bitAnd (z.fdiv (2 ^ (8 * k))) 255 = z.fdiv (2 ^ (8 * k)) % 256 := kbt_mask _ 8
  rw [e, m, Int.fdiv_eq_ediv_of_nonneg _ (Int.le_of_lt (Int.pow_pos (by decide))), Int.pow_mul]
  rfl
theorem sgn_fact (x : Int) : (170141183460469231731687303715884105728 ≤ x ∧ sgn x = x - 340282366920938463463374607431768211456) ∨ (x < 170141183460469231731687303715884105728 ∧ sgn x = x) := by
  unfold sgn; split <;> omega
theorem sgn_a {x : Int} (h : 170141183460469231731687303715884105728 ≤ x) : x - 340282366920938463463374607431768211456 = sgn x := by unfold sgn; rw [if_pos h]
theorem sgn_b {x : Int} (h : x < 170141183460469231731687303715884105728) : x = sgn x := by unfold sgn; rw [if_neg (by omega)]
theorem fitS_a {x : Int} (h : x < -170141183460469231731687303715884105728) : decide (-170141183460469231731687303715884105728 ≤ x) = fitS x := by
  unfold fitS; rw [decide_eq_false (by omega)]; rfl
theorem fitS_b {x : Int} (h : -170141183460469231731687303715884105728 ≤ x) : decide (x < 170141183460469231731687303715884105728) = fitS x := by
  unfold fitS; rw [decide_eq_true h]; rfl
theorem fitP_a {x : Int} (h : x < 0) : decide (0 ≤ x) = fitP x := by
  unfold fitP; rw [decide_eq_false (by omega)]; rfl
theorem fitP_b {x : Int} (h : 0 ≤ x) : decide (x < 340282366920938463463374607431768211456) = fitP x := by
  unfold fitP; rw [decide_eq_true h]; rfl
section
variable {prog : Program} {w : World} {A : Around} {E : Value → Shared → Prop} {s : Shared} {x y : Int} {t u : Tok} {Q : Value → Shared → Prop}
theorem step_mul (a1 : -115792089237316195423570985008687907853269984665640564039457584007913129639936 ≤ x) (a2 : x ≤ 115792089237316195423570985008687907853269984665640564039457584007913129639936) (b1 : -115792089237316195423570985008687907853269984665640564039457584007913129639936 ≤ y) (b2 : y ≤ 115792089237316195423570985008687907853269984665640564039457584007913129639936) (h : Q (.int (x * y) s.toks) { s with toks := s.toks + 1 }) : wpAny (model prog w) A (binaryOp .Mult (.int x t) (.int y u)) Q E s :=
  PyProof.Rows.mul_int h (PySem.IntMulOk.of_bits (Nat.le_trans (bits_le a1 a2) (by decide)) (Nat.le_trans (bits_le b1 b2) (by decide)))
theorem step_div (hb : y ≠ 0) (b1 : -115792089237316195423570985008687907853269984665640564039457584007913129639936 ≤ y) (b2 : y ≤ 115792089237316195423570985008687907853269984665640564039457584007913129639936) (h : Q (.int (x.fdiv y) s.toks) { s with toks := s.toks + 1 }) : wpAny (model prog w) A (binaryOp .FloorDiv (.int x t) (.int y u)) Q E s :=
  PyProof.Rows.floordiv_int hb h (Or.inl (PyProof.noPylong_of_log2 (log_le b1 b2)))
theorem step_mod (hb : y ≠ 0) (h : Q (.int (x.fmod y) s.toks) { s with toks := s.toks + 1 }) : wpAny (model prog w) A (binaryOp .Mod (.int x t) (.int y u)) Q E s :=
  PyProof.Rows.mod_int hb h
theorem step_shl (a1 : -115792089237316195423570985008687907853269984665640564039457584007913129639936 ≤ x) (a2 : x ≤ 115792089237316195423570985008687907853269984665640564039457584007913129639936) (h0 : 0 ≤ y) (h1 : y ≤ 3000) (h : Q (.int (x * 2 ^ y.toNat) s.toks) { s with toks := s.toks + 1 }) : wpAny (model prog w) A (binaryOp .LShift (.int x t) (.int y u)) Q E s := by
  refine PyProof.Rows.lshift_int h0 ?_ h
  have := bits_le a1 a2
  have e : (2:Int)^27 = 134217728 := by decide
  omega
theorem step_shr (h0 : 0 ≤ y) (h : Q (.int (x.fdiv (2 ^ y.toNat)) s.toks) { s with toks := s.toks + 1 }) : wpAny (model prog w) A (binaryOp .RShift (.int x t) (.int y u)) Q E s :=
  PyProof.Rows.rshift_int h0 h
end
end My
open PySem PySem.W PyProof.Rows
local macro_rules | `(tactic| walk_at "binaryOp Mult int int") => `(tactic| (k_here; (with_reducible refine' My.step_mul ?k1 ?k2 ?k3 ?k4 ?_); (case k1 => k_dflt omega); (case k2 => k_dflt omega); (case k3 => k_dflt omega); (case k4 => k_dflt omega)))
local macro_rules | `(tactic| walk_at "binaryOp FloorDiv int int") => `(tactic| (k_here; (with_reducible refine' My.step_div ?k1 ?k2 ?k3 ?_); (case k1 => k_dflt omega); (case k2 => k_dflt omega); (case k3 => k_dflt omega)))
local macro_rules | `(tactic| walk_at "binaryOp Mod int int") => `(tactic| (k_here; (with_reducible refine' My.step_mod ?k1 ?_); (case k1 => k_dflt omega)))
local macro_rules | `(tactic| walk_at "binaryOp LShift int int") => `(tactic| (k_here; (with_reducible refine' My.step_shl ?k1 ?k2 ?k3 ?k4 ?_); (case k1 => k_dflt omega); (case k2 => k_dflt omega); (case k3 => k_dflt omega); (case k4 => k_dflt omega)))
local macro_rules | `(tactic| walk_at "binaryOp RShift int int") => `(tactic| (k_here; (with_reducible refine' My.step_shr ?k1 ?_); (case k1 => k_dflt omega)))
namespace My
open PySem PySem.W PySem.Calls PyProof.Rows
theorem step_ord {prog : Program} {w : World} {A : Around} {E : Value → Shared → Prop} {s : Shared} {x : Str} {t : Tok} {Q : Value → Shared → Prop} (c : Int) (h1 : x.length = 1) (e : ((x.cps.getD 0 0 : Nat) : Int) = c) (h : Q (.int c s.toks) { s with toks := s.toks + 1 }) : wpAny (model prog w) A (call (.builtin "ord") [.str x t]) Q E s :=
  ord_of_one h1 (by rw [e]; exact h)
end My
open PySem PySem.W PyProof.Rows
local macro_rules | `(tactic| walk_at "call builtin:ord") => `(tactic| (k_here; (with_reducible show wpAny _ _ (call (Value.builtin "ord") [Value.str (Str.ofString "-") _]) _ _ _); k_dflt (refine My.step_ord 45 (by decide) (by decide) ?_)))
local macro_rules | `(tactic| walk_at "call builtin:ord") => `(tactic| (k_here; (with_reducible show wpAny _ _ (call (Value.builtin "ord") [Value.str (Str.ofString "0") _]) _ _ _); k_dflt (refine My.step_ord 48 (by decide) (by decide) ?_)))
local macro_rules | `(tactic| walk_at "call builtin:ord") => `(tactic| (k_here; (with_reducible show wpAny _ _ (call (Value.builtin "ord") [Value.str (Str.ofString "9") _]) _ _ _); k_dflt (refine My.step_ord 57 (by decide) (by decide) ?_)))
local macro_rules | `(tactic| walk_at "call builtin:ord") => `(tactic| (k_here; (with_reducible show wpAny _ _ (call (Value.builtin "ord") [Value.str (Str.ofString "a") _]) _ _ _); k_dflt (refine My.step_ord 97 (by decide) (by decide) ?_)))
local macro_rules | `(tactic| walk_at "call builtin:ord") => `(tactic| (k_here; (with_reducible show wpAny _ _ (call (Value.builtin "ord") [Value.str (Str.ofString "z") _]) _ _ _); k_dflt (refine My.step_ord 122 (by decide) (by decide) ?_)))
local macro_rules | `(tactic| walk_at "call builtin:ord") => `(tactic| (k_here; (with_reducible show wpAny _ _ (call (Value.builtin "ord") [Value.str (Str.ofString "A") _]) _ _ _); k_dflt (refine My.step_ord 65 (by decide) (by decide) ?_)))
local macro_rules | `(tactic| walk_at "call builtin:ord") => `(tactic| (k_here; (with_reducible show wpAny _ _ (call (Value.builtin "ord") [Value.str (Str.ofString "Z") _]) _ _ _); k_dflt (refine My.step_ord 90 (by decide) (by decide) ?_)))
namespace My
open PySem PySem.W PySem.Calls PyProof.Rows
set_option maxRecDepth 100000 in
theorem said : PySem.Challenge.rw_widewhole_s08_read.wellSaid = true := by decide +kernel
theorem asked_facts {n b : Int} {l : List Int} (h : PySf02.read_asked n b l = true) : ((1 ≤ n ∧ n ≤ 1000 ∧ (l.length : Int) = n) ∨ ((n < 1 ∨ 1000 < n) ∧ (l.length : Int) = 0)) ∧ bytes01 l := by
  have q1 : (!([[[8, n, b], l]] : List Sf02Neutral.Call).isEmpty && ([[[8, n, b], l]] : List Sf02Neutral.Call).all Sf02Neutral.asked1 && decide (Sf02Neutral.numbers Sf02Neutral.start [[[8, n, b], l]] < 1000000)) = true := h
  rw [Bool.and_eq_true, Bool.and_eq_true] at q1
  have q2 : Sf02Neutral.asked1 [[8, n, b], l] = true := List.all_eq_true.mp q1.1.2 _ (List.mem_cons_self ..)
  have q3 : (Sf02Neutral.natural n 32 && Sf02Neutral.whole32 b && l.all (fun (z : Int) => Sf02Neutral.natural z 8) && ((l.length : Int) == (if 1 ≤ n ∧ n ≤ 1000 then n else 0))) = true := q2
  rw [Bool.and_eq_true, Bool.and_eq_true, Bool.and_eq_true] at q3
  constructor
  · have e := eq_of_beq q3.2
    split at e <;> omega
  · intro z hz
    have e := List.all_eq_true.mp q3.1.2 z hz
    unfold Sf02Neutral.natural at e
    rw [Bool.and_eq_true, decide_eq_true_eq, decide_eq_true_eq] at e
    have p : (2 : Int) ^ 8 = 256 := by decide
    omega
theorem boundsR {n b : Int} {l : List Int} (h : PySem.Challenge.rw_widewhole_s08_read.pre [.int n, .int b, ofPy (PyData.list (l.map PyData.int))] = true) : ((1 ≤ n ∧ n ≤ 1000 ∧ (l.length : Int) = n) ∨ ((n < 1 ∨ 1000 < n) ∧ (l.length : Int) = 0)) ∧ bytes01 l := by
  obtain ⟨v, w, q, e⟩ := os_pre said h
  obtain ⟨x, y, z, u⟩ := v
  have e1 := os_j_int (List.cons.inj e).1
  have e2 := os_j_int (List.cons.inj (List.cons.inj e).2).1
  have e3 := os_j_ints (List.cons.inj (List.cons.inj (List.cons.inj e).2).2).1
  subst e1 e2 e3
  exact asked_facts q
theorem fin1 {n b : Int} {l r : List Int} (hp : PySem.Challenge.rw_widewhole_s08_read.pre [.int n, .int b, ofPy (PyData.list (l.map PyData.int))] = true) (h : PySf02.read n b l = r) : PySem.Challenge.rw_widewhole_s08_read.post [.int n, .int b, ofPy (PyData.list (l.map PyData.int))] (ofPy (PyData.list (r.map PyData.int))) = true := by
  obtain ⟨v, w, q, e⟩ := os_pre said hp
  obtain ⟨x, y, z, u⟩ := v
  have e1 := os_j_int (List.cons.inj e).1
  have e2 := os_j_int (List.cons.inj (List.cons.inj e).2).1
  have e3 := os_j_ints (List.cons.inj (List.cons.inj (List.cons.inj e).2).2).1
  subst e1 e2 e3
  rw [e]
  refine os_shut said w ?_
  show _ = WData.list ((PySf02.read n b l).map WData.int)
  rw [h]
  exact os_list rfl
theorem fin2 {n b : Int} {l r : List Int} (hp : PySem.Challenge.rw_widewhole_s08_read.pre [.int n, .int b, ofPy (PyData.list (l.map PyData.int))] = true) (h : PySf02.read n b l = r) : PySem.Challenge.rw_widewhole_s08_read.post [.int n, .int b, ofPy (PyData.list (l.map PyData.int))] (WData.list (ofPys (r.map PyData.int))) = true := by
  have f := fin1 hp h
  rw [os_list (ds := r.map PyData.int) rfl] at f
  rw [os_ofPys_ints]
  exact f
def dgo (z : Int) : Int := if 48 ≤ z ∧ z ≤ 57 then z - 48 else if 97 ≤ z ∧ z ≤ 122 then z - 97 + 10 else if 65 ≤ z ∧ z ≤ 90 then z - 65 + 10 else -1
theorem dgo_1 {z : Int} (h : 48 ≤ z ∧ z ≤ 57) : z - 48 = dgo z := by unfold dgo; rw [if_pos h]
theorem dgo_2 {z : Int} (h0 : ¬ (48 ≤ z ∧ z ≤ 57)) (h : 97 ≤ z ∧ z ≤ 122) : z - 97 + 10 = dgo z := by unfold dgo; rw [if_neg h0, if_pos h]
theorem dgo_3 {z : Int} (h0 : ¬ (48 ≤ z ∧ z ≤ 57)) (h1 : ¬ (97 ≤ z ∧ z ≤ 122)) (h : 65 ≤ z ∧ z ≤ 90) : z - 65 + 10 = dgo z := by unfold dgo; rw [if_neg h0, if_neg h1, if_pos h]
theorem dgo_4 {z : Int} (h0 : ¬ (48 ≤ z ∧ z ≤ 57)) (h1 : ¬ (97 ≤ z ∧ z ≤ 122)) (h : ¬ (65 ≤ z ∧ z ≤ 90)) : -1 = dgo z := by unfold dgo; rw [if_neg h0, if_neg h1, if_neg h]
theorem dgo_dig {z b : Int} (hb : b ≤ 36) : (¬ dgo z = -1 ∧ dgo z < b ∧ dig z < b ∧ dgo z = dig z) ∨ ((dgo z = -1 ∨ b ≤ dgo z) ∧ b ≤ dig z) := by
  unfold dgo dig
  (repeat' split) <;> omega
theorem okD_nil (b : Int) : okD b [] = true := rfl
theorem okD_add {b v : Int} {l : List Int} (h : okD b l = true) (hv : dig v < b) : okD b (l ++ [v]) = true := by
  unfold okD at *
  rw [List.all_append, h]
  simp [hv]
structure Same (c b : Int) : Prop where
  eq : c = b
theorem named {n b : Int} {l : List Int} (_ : PySem.Challenge.rw_widewhole_s08_read.pre [.int n, .int b, ofPy (PyData.list (l.map PyData.int))] = true) : ∃ c, Same c b := ⟨b, ⟨rfl⟩⟩
theorem ok_turn {c b v : Int} {l : List Int} (e : Same c b) (h : okD c l = true) (hb : b ≤ 36) (h1 : ¬ dgo v = -1) (h2 : ¬ b ≤ dgo v) : okD c (l ++ [v]) = true := by
  have k := dgo_dig (z := v) hb
  have e' := e.eq
  subst e'
  exact okD_add h (by omega)
theorem okD_not {b v : Int} {l p q : List Int} (e : l = p ++ v :: q) (hb : b ≤ 36) (h : dgo v = -1 ∨ b ≤ dgo v) : okD b l = false := by
  have k := dgo_dig (z := v) hb
  subst e
  unfold okD
  rw [List.all_append, List.all_cons, decide_eq_false (show ¬ dig v < b by omega)]
  simp
def foldI (b : Int) (l : List Int) : Int := l.foldl (fun n c => n * b + dgo c) 0
theorem fold_0 {b : Int} : (0 : Int) = foldI b [] := rfl
theorem fold_turn {b s v : Int} {l : List Int} (h : s = foldI b l) : s * b + dgo v = foldI b (l ++ [v]) := by
  unfold foldI at *
  rw [List.foldl_append, ← h]; rfl
theorem foldI_D {b : Int} (hb : b ≤ 36) : ∀ (l : List Int) (n : Int), okD b l = true → l.foldl (fun n c => n * b + dgo c) n = foldD b l n
  | [], _, _ => rfl
  | v :: r, n, h => by
    unfold okD at h
    rw [List.all_cons, Bool.and_eq_true, decide_eq_true_eq] at h
    have k := dgo_dig (z := v) hb
    show r.foldl (fun n c => n * b + dgo c) (n * b + dgo v) = foldD b r (b * n + dig v)
    rw [foldI_D hb r _ h.2, show dgo v = dig v by omega, Int.mul_comm n b]
theorem head_45 {l : List Int} (hl : 0 < l.length) : (l.head? = some 45) = (l.getD (Int.toNat 0) 0 = 45) := by
  cases l with
  | nil => exact absurd hl (Nat.lt_irrefl 0)
  | cons x r => apply propext; show (some x = some 45) ↔ x = 45; exact Option.some_inj
theorem rd_neg {b : Int} {l : List Int} (hl : 0 < l.length) (h : l.getD (Int.toNat 0) 0 = 45) : rd b l = (num b (l.drop 1)).map fun n => -n := by
  unfold rd; rw [if_pos (by rw [head_45 hl]; exact h)]
theorem rd_pos {b : Int} {l : List Int} (hl : 0 < l.length) (h : ¬ l.getD (Int.toNat 0) 0 = 45) : rd b l = num b l := by
  unfold rd; rw [if_neg (by rw [head_45 hl]; exact h)]
theorem num_ok {b : Int} {l : List Int} (hb : b ≤ 36) (h : okD b l = true) (hl : (l.length : Int) ≠ 0) : num b l = some (foldI b l) := by
  unfold num
  rw [if_neg]
  · exact congrArg some (foldI_D hb l 0 h).symm
  · rintro (e | e)
    · subst e; exact hl rfl
    · rw [h] at e; cases e
theorem num_bad {b : Int} {l : List Int} (h : okD b l = false) : num b l = none := by
  unfold num; rw [if_pos (.inr h)]
section
variable {n b : Int} {l : List Int} (hp : PySem.Challenge.rw_widewhole_s08_read.pre [.int n, .int b, ofPy (PyData.list (l.map PyData.int))] = true)
include hp
theorem end_out (h : n < 1 ∨ 1000 < n ∨ b < 2 ∨ 36 < b) : PySem.Challenge.rw_widewhole_s08_read.post [.int n, .int b, ofPy (PyData.list (l.map PyData.int))] (ofPy (PyData.list [PyData.int (-1)])) = true :=
  fin1 (r := [-1]) hp (read_bad h)
theorem good (n0 : ¬ n < 1) (n1 : ¬ 1000 < n) (b0 : 2 ≤ b) (b1 : b ≤ 36) : 0 < l.length ∧ PySf02.read n b l = match rd b l with
      | none => [-1]
      | some z => if fitS z = true then 0 :: 16 :: by8 z 16 else [-2] := by
  have B := boundsR hp
  exact ⟨by omega, read_good (by omega) (by omega) b0 b1 B.2⟩
theorem end_none (n0 : ¬ n < 1) (n1 : ¬ 1000 < n) (b0 : 2 ≤ b) (b1 : b ≤ 36) (h : rd b l = none) : PySem.Challenge.rw_widewhole_s08_read.post [.int n, .int b, ofPy (PyData.list (l.map PyData.int))] (ofPy (PyData.list [PyData.int (-1)])) = true := by
  refine fin1 (r := [-1]) hp ?_
  rw [(good hp n0 n1 b0 b1).2, h]
theorem end_wide (n0 : ¬ n < 1) (n1 : ¬ 1000 < n) (b0 : 2 ≤ b) (b1 : b ≤ 36) {z : Int} (h : rd b l = some z) (hf : fitS z = false) : PySem.Challenge.rw_widewhole_s08_read.post [.int n, .int b, ofPy (PyData.list (l.map PyData.int))] (ofPy (PyData.list [PyData.int (-2)])) = true := by
  refine fin1 (r := [-2]) hp ?_
  rw [(good hp n0 n1 b0 b1).2, h]
  simp only [hf]
  rfl
theorem end_fits (n0 : ¬ n < 1) (n1 : ¬ 1000 < n) (b0 : 2 ≤ b) (b1 : b ≤ 36) {z : Int} (h : rd b l = some z) (hf : fitS z = true) : PySem.Challenge.rw_widewhole_s08_read.post [.int n, .int b, ofPy (PyData.list (l.map PyData.int))] (WData.list (ofPys (List.map PyData.int ([0, 16] ++ List.map (fun k' => Builtin.bitAnd (z.fdiv (2 ^ (8 * k').toNat)) 255) (rangeKs 0 ((16 : Int) - 0).toNat))))) = true := by
  refine fin2 hp ?_
  rw [(good hp n0 n1 b0 b1).2, h, walk8]
  simp only [hf]
  rfl
theorem no_digits (n0 : ¬ n < 1) (n1 : ¬ 1000 < n) (b0 : 2 ≤ b) (b1 : b ≤ 36) (h : l.getD (Int.toNat 0) 0 = 45) (e : ((l.drop 1).length : Int) = 0) : rd b l = none := by
  rw [rd_neg (good hp n0 n1 b0 b1).1 h]
  have k : l.drop 1 = [] := List.eq_nil_of_length_eq_zero (by omega)
  rw [k]; rfl
theorem bad_neg (n0 : ¬ n < 1) (n1 : ¬ 1000 < n) (b0 : 2 ≤ b) (b1 : b ≤ 36) (h : l.getD (Int.toNat 0) 0 = 45) {v : Int} {p q : List Int} (e : l.drop 1 = p ++ v :: q) (d : dgo v = -1 ∨ b ≤ dgo v) : rd b l = none := by
  rw [rd_neg (good hp n0 n1 b0 b1).1 h, num_bad (okD_not e b1 d)]; rfl
theorem bad_pos (n0 : ¬ n < 1) (n1 : ¬ 1000 < n) (b0 : 2 ≤ b) (b1 : b ≤ 36) (h : ¬ l.getD (Int.toNat 0) 0 = 45) {v : Int} {p q : List Int} (e : l = p ++ v :: q) (d : dgo v = -1 ∨ b ≤ dgo v) : rd b l = none := by
  rw [rd_pos (good hp n0 n1 b0 b1).1 h, num_bad (okD_not e b1 d)]
theorem got_neg (n0 : ¬ n < 1) (n1 : ¬ 1000 < n) (b0 : 2 ≤ b) (b1 : b ≤ 36) (h : l.getD (Int.toNat 0) 0 = 45) {c s : Int} (e : Same c b) (k : okD c (l.drop 1) = true) (hs : s = foldI b (l.drop 1)) (hl : ((l.drop 1).length : Int) ≠ 0) : rd b l = some (-s) := by
  have e' := e.eq
  subst e'
  rw [rd_neg (good hp n0 n1 b0 b1).1 h, num_ok b1 k hl, ← hs]; rfl
theorem got_pos (n0 : ¬ n < 1) (n1 : ¬ 1000 < n) (b0 : 2 ≤ b) (b1 : b ≤ 36) (h : ¬ l.getD (Int.toNat 0) 0 = 45) {c s : Int} (e : Same c b) (k : okD c l = true) (hs : s = foldI b l) : rd b l = some s := by
  have e' := e.eq
  subst e'
  have g := (good hp n0 n1 b0 b1).1
  rw [rd_pos g h, num_ok b1 k (by omega), ← hs]
end
theorem step_mulR {prog : Program} {w : World} {A : Around} {E : Value → Shared → Prop} {s : Shared} {x y : Int} {t u : Tok} {Q : Value → Shared → Prop} (lo : -1000 ≤ y) (hi : y ≤ 1000) (h : Q (.int (x * y) s.toks) { s with toks := s.toks + 1 }) : wpAny (model prog w) A (binaryOp .Mult (.int x t) (.int y u)) Q E s :=
  PyProof.Rows.mul_int h (PySem.IntMulOk.of_right (PySem.intBits_le_64 (by omega) (by omega)))
end My
local macro_rules | `(tactic| walk_at "binaryOp Mult int int") => `(tactic| (k_here; (with_reducible refine' My.step_mulR ?k1 ?k2 ?_); (case k1 => k_dflt omega); (case k2 => k_dflt omega)))
local macro_rules | `(tactic| walk_at "eval Call") => `(tactic| (k_here; (with_reducible show wpAny _ _ (eval (Expr.Call (Expr.Name (Str.ofString "digit_of") _) _ _ _) _) _ _ _); k_dflt (refine Call_ ?_)))
local macro_rules | `(tactic| walk_at "eval Call") => `(tactic| (k_here; (with_reducible show wpAny _ _ (eval (Expr.Call (Expr.Name (Str.ofString "fits_signed") _) _ _ _) _) _ _ _); k_dflt (refine Call_ ?_)))
local macro_rules | `(tactic| walk_at "exec For Name Name cons nil") => `(tactic| (k_here; (rename Fr _ _ _ _ => frM); (with_unfolding_all refine' For_invVF frM ?m1 ?m2 ?_; (case m1 => exact rfl); (case m2 => exact rfl); k_whole)))
set_option maxRecDepth 100000 in
set_option maxHeartbeats 2000000 in
theorem PySem.Challenge.cw_widewhole_s08_read_holds : PySem.Challenge.rw_widewhole_s08_read.Holds := by
  k_with "tree" => (first | exact My.fitS_a (by omega) | exact My.fitS_b (by omega) | exact My.dgo_1 (by omega) | exact My.dgo_2 (by omega) (by omega) | exact My.dgo_3 (by omega) (by omega) (by omega) | exact My.dgo_4 (by omega) (by omega) (by omega))
  k_with "state" => (first | exact My.fold_0 | exact My.fold_turn (by assumption) | exact My.okD_nil _ | exact My.ok_turn (by assumption) (by assumption) (by omega) (by omega) (by omega))
  k_with "pyIter ref" => (first | k_state_given ["base"] (fun base pre size => size = My.foldI base pre) "size" | k_search (fun pre => My.okD myB pre = true))
  k_with "call ref" => k_call_rec "fits_signed" My.fitS (fun (_ : Int) => True) (fun (_ : Int) => 0)
  k_with "call ref" => k_call_rec "digit_of" My.dgo (fun (_ : Int) => True) (fun (_ : Int) => 0)
  w_on; k_headS; (case hw => exact ⟨[.int 0, .int 0, .list []], by decide +kernel, by decide +kernel⟩); w_strict (k_goS0; (with_reducible rename OpenSpec.pre _ _ = true => osP); (have osB := My.boundsR osP); (obtain ⟨myB, myE⟩ := My.named osP); (all_goals try k_fold); k_steps; (all_goals (try (w_end; sp_is; wrow_close))); (all_goals (try k_data)); all_goals first | sp_left | w_report)
  all_goals first
    | (exfalso; omega)
    | exact My.end_out hpre (by omega)
    | exact My.end_none hpre (by omega) (by omega) (by omega) (by omega) (My.no_digits hpre (by omega) (by omega) (by omega) (by omega) (by omega) (by omega))
    | exact My.end_none hpre (by omega) (by omega) (by omega) (by omega) (My.bad_neg hpre (by omega) (by omega) (by omega) (by omega) (by omega) (by assumption) (by omega))
    | exact My.end_none hpre (by omega) (by omega) (by omega) (by omega) (My.bad_pos hpre (by omega) (by omega) (by omega) (by omega) (by omega) (by assumption) (by omega))
    | exact My.end_wide hpre (by omega) (by omega) (by omega) (by omega) (My.got_neg hpre (by omega) (by omega) (by omega) (by omega) (by omega) (by assumption) (by assumption) (by assumption) (by omega)) (by assumption)
    | exact My.end_wide hpre (by omega) (by omega) (by omega) (by omega) (My.got_pos hpre (by omega) (by omega) (by omega) (by omega) (by omega) (by assumption) (by assumption) (by assumption)) (by assumption)
    | exact My.end_fits hpre (by omega) (by omega) (by omega) (by omega) (My.got_neg hpre (by omega) (by omega) (by omega) (by omega) (by omega) (by assumption) (by assumption) (by assumption) (by omega)) (by assumption)
    | exact My.end_fits hpre (by omega) (by omega) (by omega) (by omega) (My.got_pos hpre (by omega) (by omega) (by omega) (by omega) (by omega) (by assumption) (by assumption) (by assumption)) (by assumption)
#print axioms PySem.Challenge.cw_widewhole_s08_read_holds
