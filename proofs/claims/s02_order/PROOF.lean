import PyProof.Rows.All
import KE.OsGo
import KE.OsArgs
import PySem.Challenge.RW_widewhole_s02_order
open PySem PySem.W
set_option Elab.async false
namespace My
def sgn (x : Int) : Int := if 170141183460469231731687303715884105728 ≤ x then x - 340282366920938463463374607431768211456 else x
theorem W_lit : Sf02.W = 340282366920938463463374607431768211456 := by decide
theorem mod_W {x : Int} (h0 : 0 ≤ x) (h1 : x ≤ 340282366920938463463374607431768211455) : (((x.toNat % Sf02.W : Nat)) : Int) = x := by
  rw [W_lit]; omega
theorem signed_eq {x : Int} (h0 : 0 ≤ x) (h1 : x ≤ 340282366920938463463374607431768211455) : Sf02.signed x.toNat = sgn x := by
  have e := mod_W h0 h1
  unfold Sf02.signed sgn
  rw [e]
  have e2 : (2:Nat)^127 = 170141183460469231731687303715884105728 := by decide
  rw [e2]
  rw [W_lit] at *
  split <;> split <;> omega
def sg (p x : Int) : Int := if p = 1 then x else sgn x
theorem kind_eq {x p : Int} (h0 : 0 ≤ x) (h1 : x ≤ 340282366920938463463374607431768211455) (hp0 : 0 ≤ p) (hp1 : p ≤ 1) : Sf02.kind (p != 0) x.toNat = sg p x := by
  unfold Sf02.kind sg
  rw [mod_W h0 h1, signed_eq h0 h1]
  rcases (by omega : p = 0 ∨ p = 1) with e | e <;> subst e <;> simp
theorem order_eq {x y p : Int} (h0 : 0 ≤ x) (h1 : x ≤ 340282366920938463463374607431768211455) (k0 : 0 ≤ y) (k1 : y ≤ 340282366920938463463374607431768211455) (hp0 : 0 ≤ p) (hp1 : p ≤ 1) :
    PySf02.order x y p = [if sg p x < sg p y then -1 else if sg p x = sg p y then 0 else 1] := by
  show [(if Sf02.kind (p != 0) x.toNat < Sf02.kind (p != 0) y.toNat then -1 else if Sf02.kind (p != 0) x.toNat = Sf02.kind (p != 0) y.toNat then 0 else 1 : Int)] = _
  rw [kind_eq h0 h1 hp0 hp1, kind_eq k0 k1 hp0 hp1]
theorem in3 {l1 h1 l2 h2 l3 h3 x y p : Int} {u : Unit} (w : Codec.withinAll [.int l1 h1, .int l2 h2, .int l3 h3] (x, y, p, u) = true) :
    (l1 ≤ x ∧ x ≤ h1) ∧ (l2 ≤ y ∧ y ≤ h2) ∧ l3 ≤ p ∧ p ≤ h3 := by
  have w' : (Codec.inInt l1 h1 x && (Codec.inInt l2 h2 y && (Codec.inInt l3 h3 p && true))) = true := w
  simp only [Codec.inInt, Bool.and_eq_true, decide_eq_true_eq] at w'
  exact ⟨w'.1, w'.2.1, w'.2.2.1⟩
theorem out1 {x y p v : Int} (w : Codec.withinAll PySem.Challenge.rw_widewhole_s02_order.args (x, y, p, ()) = true)
    (h : v = if sg p x < sg p y then -1 else if sg p x = sg p y then 0 else 1) :
    ofPy (PyData.list [PyData.int v]) = PySem.Challenge.rw_widewhole_s02_order.ret.enc (Codec.app PySem.Challenge.rw_widewhole_s02_order.args PySem.Challenge.rw_widewhole_s02_order.f (x, y, p, ())) := by
  have b := in3 w
  show ofPy (PyData.list [PyData.int v]) = WData.list ((PySf02.order x y p).map WData.int)
  rw [order_eq b.1.1 b.1.2 b.2.1.1 b.2.1.2 b.2.2.1 b.2.2.2, ← h]
  exact os_list rfl
set_option maxRecDepth 100000 in
theorem said : PySem.Challenge.rw_widewhole_s02_order.wellSaid = true := by decide +kernel
end My
set_option maxRecDepth 100000 in
set_option maxHeartbeats 8000000 in
theorem PySem.Challenge.cw_widewhole_s02_order_holds : PySem.Challenge.rw_widewhole_s02_order.Holds := by
  open_ks with [.int 0, .int 0, .int 0]
  all_goals (
    os_open My.said with a w q e
    obtain ⟨x, y, p, u⟩ := a
    have e1 := os_j_int (List.cons.inj e).1
    have e2 := os_j_int (List.cons.inj (List.cons.inj e).2).1
    have e3 := os_j_int (List.cons.inj (List.cons.inj (List.cons.inj e).2).2).1
    subst e1 e2 e3
    have b := My.in3 w
    refine My.out1 w ?_
    clear w q e
    simp only [My.sg, My.sgn]
    (repeat' split) <;> omega)
#print axioms PySem.Challenge.cw_widewhole_s02_order_holds
