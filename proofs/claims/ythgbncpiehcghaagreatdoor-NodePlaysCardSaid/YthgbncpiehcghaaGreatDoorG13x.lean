/- WALKS OF LAYER 13, TWENTY-FOURTH PART: act, on a tree. -/
import Derived.Test.YthgbncpiehcghaaGreatDoorG13v
import Derived.Test.YthgbncpiehcghaaGreatDoorGs2
namespace Go.Proofs.YthgbncpiehcghaaGreatDoor
set_option linter.unusedVariables false
open Go Go.RowKit Go.Maps
set_option maxRecDepth 100000
set_option maxHeartbeats 8000000
open Nt (Tr Nd WF Ps Path at_ cnt used)
section
variable {w0 w w' : World} {tb K : Nat} {T : Tr}
theorem at_sym (h : At w0 w tb T K) (hK : K ≤ 100000) (p l : ByteArray) (hp : p.size ≤ 1000000) (hl : l.size ≤ 1000000) (a b c d : Int) :
    Calls Tryz.prog 59 #[.pointer (some ⟨tb, 0, none⟩), .string p, .agg #[.int .i64 a, .int .i64 b, .int .i64 c, .int .i64 d], .string l] w fun e w' => e = .returned (.int .i64 (T.mk' p ⟨3, a, b, c, d, l, none, 0, 0, []⟩).2) ∧ At w0 w' tb (T.mk' p ⟨3, a, b, c, d, l, none, 0, 0, []⟩).1 (K + 301) := by
  obtain ⟨F, ad, mb, hF, hR⟩ := h.rep
  exact (sym_any h.wf hK hR p hp a b c d l hl).mono fun e w' hd => h.of_done hF (h.wf.mk' fun _ => ⟨.inr (.inl rfl), rfl, Nat.zero_le _, fun _ => rfl, fun h => absurd rfl h⟩) hd
theorem at_write (h : At w0 w tb T K) (hK : K ≤ 100000) (p : ByteArray) (hp : p.size ≤ 1000000) (A : Option Addr) (n k : Nat) (xs : List Int) (hd : RB w w0.heap.size A n xs) (hn : n ≤ 1000000) :
    Calls Tryz.prog 60 #[.pointer (some ⟨tb, 0, none⟩), .string p, .slice A n k] w fun e w' => e = .returned (.int .i64 (T.wr p A n k xs).2) ∧ At w0 w' tb (T.wr p A n k xs).1 (K + 301) := by
  obtain ⟨F, ad, mb, hF, hR⟩ := h.rep
  exact (write_any h.wf hK hR p hp A n k xs w0.heap.size hd h.low.size (hF _ hR.ftree).1 hn).mono fun e w' hd2 => h.of_done hF (h.wf.wr' p A n k xs hd.1) hd2
end
/-- What a step does. -/
def stp (T : Tr) (kd : Int) (p q : ByteArray) (a b c d : Int) (A : Option Addr) (n k : Nat) (xs : List Int) : Tr × Int :=
  if kd.tmod 10 = 0 then T.mk' p ⟨4, a, b, c, d, ⟨#[]⟩, none, 0, 0, []⟩ else if kd.tmod 10 = 1 then T.mk' p ⟨1, a, b, c, d, ⟨#[]⟩, A, n, k, xs⟩ else if kd.tmod 10 = 2 then T.mk' p ⟨3, a, b, c, d, q, none, 0, 0, []⟩
  else if kd.tmod 10 = 3 then T.lnk p q else if kd.tmod 10 = 4 then T.wr p A n k xs else if kd.tmod 10 = 5 then T.st p a b c d else if kd.tmod 10 = 6 then T.rm p else if kd.tmod 10 = 7 then T.clr p else T.rn p q
theorem act_at {w0 w : World} {tb K : Nat} {T : Tr} (h : At w0 w tb T K) (hK : K ≤ 100000) (kd : Int) (p q : ByteArray) (hp : p.size ≤ 100000) (hq : q.size ≤ 100000) (a b c d : Int) (A : Option Addr) (n k : Nat) (xs : List Int) (hd : RB w w0.heap.size A n xs) (hn : n ≤ 1000000) :
    Calls Tryz.prog 13 #[.pointer (some ⟨tb, 0, none⟩), .agg (StC kd p q a b c d A n k)] w fun e w' => e = .returned (.int .i64 (stp T kd p q a b c d A n k xs).2) ∧ At w0 w' tb (stp T kd p q a b c d A n k xs).1 (K + 301) := by
  have hb := bthen (below_new w (.cells (StC kd p q a b c d A n k) 38)) (below_new _ (.cells #[.int .i64 a, .int .i64 b, .int .i64 c, .int .i64 d] 72))
  have HA := h.later hb
  have HR := hd.below (hb.mono h.low.size)
  have HR2 : RB ((w.alloc (.cells (StC kd p q a b c d A n k) 38)).alloc (.cells #[.int .i64 a, .int .i64 b, .int .i64 c, .int .i64 d] 72)) ((w.alloc (.cells (StC kd p q a b c d A n k) 38)).alloc (.cells #[.int .i64 a, .int .i64 b, .int .i64 c, .int .i64 d] 72)).heap.size A n xs := HR.more (Nat.le_trans h.low.size hb.size)
  unfold stp
  obtain ⟨r, hr⟩ : ∃ r, kd.tmod 10 = r := ⟨_, rfl⟩
  by_cases h0 : r = 0
  · subst h0
    have g0 : (kd.tmod 10 == 0) = true := by simp [hr]
    rw [if_pos hr]
    have kk := Lib.hid (at_mkdir HA hK p (by omega) a b c d)
    clear h hb hr HA HR HR2 hd
    go_enter Tryz.func13, Tryz.ntmps13
    go_wp2_with (go_at_call 44; refine kk.out.mono ?_; rintro e w1 ⟨rfl, h1⟩)
    go_ret
    exact ⟨rfl, h1⟩
  by_cases h1 : r = 1
  · subst h1
    have g1 : (kd.tmod 10 == 1) = true := by simp [hr]
    have g0 : (kd.tmod 10 == 0) = false := by simp [hr]
    rw [if_neg (by rw [hr]; omega), if_pos hr]
    have kk := Lib.hid (at_create HA hK p (by omega) a b c d A n k xs HR2 hn)
    clear h hb hr HA HR HR2 hd
    go_enter Tryz.func13, Tryz.ntmps13
    go_wp2_with (go_at_call 48; refine kk.out.mono ?_; rintro e w1 ⟨rfl, h1⟩)
    go_ret
    exact ⟨rfl, h1⟩
  by_cases h2 : r = 2
  · subst h2
    have g2 : (kd.tmod 10 == 2) = true := by simp [hr]
    have g0 : (kd.tmod 10 == 0) = false := by simp [hr]
    have g1 : (kd.tmod 10 == 1) = false := by simp [hr]
    rw [if_neg (by rw [hr]; omega), if_neg (by rw [hr]; omega), if_pos hr]
    have kk := Lib.hid (at_sym HA hK p q (by omega) (by omega) a b c d)
    clear h hb hr HA HR HR2 hd
    go_enter Tryz.func13, Tryz.ntmps13
    go_wp2_with (go_at_call 59; refine kk.out.mono ?_; rintro e w1 ⟨rfl, h1⟩)
    go_ret
    exact ⟨rfl, h1⟩
  by_cases h3 : r = 3
  · subst h3
    have g3 : (kd.tmod 10 == 3) = true := by simp [hr]
    have g0 : (kd.tmod 10 == 0) = false := by simp [hr]
    have g1 : (kd.tmod 10 == 1) = false := by simp [hr]
    have g2 : (kd.tmod 10 == 2) = false := by simp [hr]
    rw [if_neg (by rw [hr]; omega), if_neg (by rw [hr]; omega), if_neg (by rw [hr]; omega), if_pos hr]
    have kk := Lib.hid (at_link HA hK p q (by omega) (by omega))
    clear h hb hr HA HR HR2 hd
    go_enter Tryz.func13, Tryz.ntmps13
    go_wp2_with (go_at_call 49; refine kk.out.mono ?_; rintro e w1 ⟨rfl, h1⟩)
    go_ret
    exact ⟨rfl, h1⟩
  by_cases h4 : r = 4
  · subst h4
    have g4 : (kd.tmod 10 == 4) = true := by simp [hr]
    have g0 : (kd.tmod 10 == 0) = false := by simp [hr]
    have g1 : (kd.tmod 10 == 1) = false := by simp [hr]
    have g2 : (kd.tmod 10 == 2) = false := by simp [hr]
    have g3 : (kd.tmod 10 == 3) = false := by simp [hr]
    rw [if_neg (by rw [hr]; omega), if_neg (by rw [hr]; omega), if_neg (by rw [hr]; omega), if_neg (by rw [hr]; omega), if_pos hr]
    have kk := Lib.hid (at_write HA hK p (by omega) A n k xs HR hn)
    clear h hb hr HA HR HR2 hd
    go_enter Tryz.func13, Tryz.ntmps13
    go_wp2_with (go_at_call 60; refine kk.out.mono ?_; rintro e w1 ⟨rfl, h1⟩)
    go_ret
    exact ⟨rfl, h1⟩
  by_cases h5 : r = 5
  · subst h5
    have g5 : (kd.tmod 10 == 5) = true := by simp [hr]
    have g0 : (kd.tmod 10 == 0) = false := by simp [hr]
    have g1 : (kd.tmod 10 == 1) = false := by simp [hr]
    have g2 : (kd.tmod 10 == 2) = false := by simp [hr]
    have g3 : (kd.tmod 10 == 3) = false := by simp [hr]
    have g4 : (kd.tmod 10 == 4) = false := by simp [hr]
    rw [if_neg (by rw [hr]; omega), if_neg (by rw [hr]; omega), if_neg (by rw [hr]; omega), if_neg (by rw [hr]; omega), if_neg (by rw [hr]; omega), if_pos hr]
    have kk := Lib.hid (at_set HA hK p (by omega) a b c d)
    clear h hb hr HA HR HR2 hd
    go_enter Tryz.func13, Tryz.ntmps13
    go_wp2_with (go_at_call 61; refine kk.out.mono ?_; rintro e w1 ⟨rfl, h1⟩)
    go_ret
    exact ⟨rfl, h1⟩
  by_cases h6 : r = 6
  · subst h6
    have g6 : (kd.tmod 10 == 6) = true := by simp [hr]
    have g0 : (kd.tmod 10 == 0) = false := by simp [hr]
    have g1 : (kd.tmod 10 == 1) = false := by simp [hr]
    have g2 : (kd.tmod 10 == 2) = false := by simp [hr]
    have g3 : (kd.tmod 10 == 3) = false := by simp [hr]
    have g4 : (kd.tmod 10 == 4) = false := by simp [hr]
    have g5 : (kd.tmod 10 == 5) = false := by simp [hr]
    rw [if_neg (by rw [hr]; omega), if_neg (by rw [hr]; omega), if_neg (by rw [hr]; omega), if_neg (by rw [hr]; omega), if_neg (by rw [hr]; omega), if_neg (by rw [hr]; omega), if_pos hr]
    have kk := Lib.hid (at_remove HA hK p (by omega))
    clear h hb hr HA HR HR2 hd
    go_enter Tryz.func13, Tryz.ntmps13
    go_wp2_with (go_at_call 51; refine kk.out.mono ?_; rintro e w1 ⟨rfl, h1⟩)
    go_ret
    exact ⟨rfl, h1⟩
  by_cases h7 : r = 7
  · subst h7
    have g7 : (kd.tmod 10 == 7) = true := by simp [hr]
    have g0 : (kd.tmod 10 == 0) = false := by simp [hr]
    have g1 : (kd.tmod 10 == 1) = false := by simp [hr]
    have g2 : (kd.tmod 10 == 2) = false := by simp [hr]
    have g3 : (kd.tmod 10 == 3) = false := by simp [hr]
    have g4 : (kd.tmod 10 == 4) = false := by simp [hr]
    have g5 : (kd.tmod 10 == 5) = false := by simp [hr]
    have g6 : (kd.tmod 10 == 6) = false := by simp [hr]
    rw [if_neg (by rw [hr]; omega), if_neg (by rw [hr]; omega), if_neg (by rw [hr]; omega), if_neg (by rw [hr]; omega), if_neg (by rw [hr]; omega), if_neg (by rw [hr]; omega), if_neg (by rw [hr]; omega), if_pos hr]
    have kk := Lib.hid (at_clear HA hK p (by omega))
    clear h hb hr HA HR HR2 hd
    go_enter Tryz.func13, Tryz.ntmps13
    go_wp2_with (go_at_call 62; refine kk.out.mono ?_; rintro e w1 ⟨rfl, h1⟩)
    go_ret
    exact ⟨rfl, h1⟩
  have g0 : (kd.tmod 10 == 0) = false := by simp [hr, h0]
  have g1 : (kd.tmod 10 == 1) = false := by simp [hr, h1]
  have g2 : (kd.tmod 10 == 2) = false := by simp [hr, h2]
  have g3 : (kd.tmod 10 == 3) = false := by simp [hr, h3]
  have g4 : (kd.tmod 10 == 4) = false := by simp [hr, h4]
  have g5 : (kd.tmod 10 == 5) = false := by simp [hr, h5]
  have g6 : (kd.tmod 10 == 6) = false := by simp [hr, h6]
  have g7 : (kd.tmod 10 == 7) = false := by simp [hr, h7]
  rw [if_neg (by rw [hr]; omega), if_neg (by rw [hr]; omega), if_neg (by rw [hr]; omega), if_neg (by rw [hr]; omega), if_neg (by rw [hr]; omega), if_neg (by rw [hr]; omega), if_neg (by rw [hr]; omega), if_neg (by rw [hr]; omega)]
  have kk := Lib.hid (at_rename HA hK p q hp hq)
  clear h hb hr HA HR HR2 hd
  go_enter Tryz.func13, Tryz.ntmps13
  go_wp2_with (go_at_call 42; refine kk.out.mono ?_; rintro e w1 ⟨rfl, h1⟩)
  go_ret
  exact ⟨rfl, h1⟩
/-- A step. -/
structure Sp where
  kd : Int
  p : ByteArray
  q : ByteArray
  a : Int
  b : Int
  c : Int
  d : Int
  A : Option Addr
  n : Nat
  k : Nat
  xs : List Int
def Sp.cs (y : Sp) : Array Value := StC y.kd y.p y.q y.a y.b y.c y.d y.A y.n y.k
/-- A slice of steps, in blocks below B, with their bytes. -/
def SL (w : World) (B : Nat) (A : Option Addr) (n : Nat) (l : List Sp) : Prop :=
  (l.length = n ∧ (0 < n → ∃ b o, A = some ⟨b, o, none⟩ ∧ b < B ∧ ∀ (j : Nat) y, l[j]? = some y → ∀ (i : Nat) u, y.cs[i]? = some u → w.cell? ⟨b, o + j * 8 + i, none⟩ = some u)) ∧ ∀ y ∈ l, RB w B y.A y.n y.xs
section
variable {w w' : World} {B n : Nat} {A : Option Addr} {l : List Sp}
theorem SL.below (h : SL w B A n l) (hb : Below B w w') : SL w' B A n l :=
  ⟨⟨h.1.1, fun hn => by
    obtain ⟨b, o, e, hlt, hc⟩ := h.1.2 hn
    exact ⟨b, o, e, hlt, fun j x hj i v hv => (hb.cell (p := ⟨b, o + j * 8 + i, none⟩) hlt).trans (hc j x hj i v hv)⟩⟩, fun y hy => (h.2 y hy).below hb⟩
theorem SL.nil : SL w B A 0 [] := ⟨⟨rfl, fun h => absurd h (by omega)⟩, fun y hy => by cases hy⟩
theorem SL.take (h : SL w B A n l) {k : Nat} (hk : k ≤ n) : SL w B A k (l.take k) :=
  ⟨⟨by rw [List.length_take, h.1.1]; omega, fun hn => by
    obtain ⟨b, o, e, hlt, hc⟩ := h.1.2 (by omega)
    refine ⟨b, o, e, hlt, fun j x hj i v hv => hc j x ?_ i v hv⟩
    rw [List.getElem?_take] at hj
    split at hj
    · exact hj
    · cases hj⟩, fun y hy => h.2 y (List.mem_of_mem_take hy)⟩
theorem SL.at_ (h : SL w B A n l) {j : Nat} (hj : j < n) : ∃ b o y, A = some ⟨b, o, none⟩ ∧ b < B ∧ l[j]? = some y ∧ RB w B y.A y.n y.xs ∧ ∀ (i : Nat) u, y.cs[i]? = some u → w.cell? ⟨b, o + j * 8 + i, none⟩ = some u := by
  obtain ⟨b, o, e, hlt, hc⟩ := h.1.2 (by omega)
  have hl : j < l.length := by rw [h.1.1]; exact hj
  exact ⟨b, o, l[j], e, hlt, List.getElem?_eq_getElem hl, h.2 _ (List.getElem_mem hl), hc j _ (List.getElem?_eq_getElem hl)⟩
end
/-- What a step's texts are. -/
def Sp.far (y : Sp) : Bool := decide (400 < y.p.size) || decide (400 < y.q.size) || decide (4200 < y.n)
end Go.Proofs.YthgbncpiehcghaaGreatDoor
