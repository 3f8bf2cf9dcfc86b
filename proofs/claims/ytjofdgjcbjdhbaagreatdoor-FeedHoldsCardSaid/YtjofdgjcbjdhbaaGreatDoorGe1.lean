/- WALKS OF LAYER 8, FIRST PART: the small calls of memb, of its reference and of the laws. -/
import Derived.Test.YtjofdgjcbjdhbaaGreatDoorGm8
import Derived.Test.YtjofdgjcbjdhbaaGreatDoorGv2
import Derived.Test.YtjofdgjcbjdhbaaGreatDoorGy2
import Derived.Test.YtjofdgjcbjdhbaaGreatDoorGr6
import Derived.Test.YtjofdgjcbjdhbaaGreatDoorBx
import Derived.Laws.StructEq
import Derived.Test.YtjofdgjcbjdhbaaGreatDoorR6d
import Derived.Test.YtjofdgjcbjdhbaaGreatDoorH5a
namespace Go.Proofs.YtjofdgjcbjdhbaaGreatDoor
open Go Go.RowKit
set_option maxHeartbeats 1600000
set_option maxRecDepth 100000
set_option linter.unusedVariables false
theorem mtype_any (k : Int) (w : World) : Calls Tryz.prog 80 #[.int .i64 k] w fun e w' => e = .returned (.int .u8 (Mb.typ k)) ∧ w = w' := by
  by_cases h1 : k = 1
  · subst h1
    go_enter Tryz.func80, Tryz.ntmps80
    go_wp2
    go_ret
    exact ⟨rfl, rfl⟩
  by_cases h2 : k = 2
  · subst h2
    go_enter Tryz.func80, Tryz.ntmps80
    go_wp2
    go_ret
    exact ⟨rfl, rfl⟩
  by_cases h3 : k = 3
  · subst h3
    go_enter Tryz.func80, Tryz.ntmps80
    go_wp2
    go_ret
    exact ⟨rfl, rfl⟩
  by_cases h4 : k = 4
  · subst h4
    go_enter Tryz.func80, Tryz.ntmps80
    go_wp2
    go_ret
    exact ⟨rfl, rfl⟩
  have e : Mb.typ k = 0 := by unfold Mb.typ; rw [if_neg h1, if_neg h2, if_neg h3, if_neg h4]
  rw [e]
  have e1 : (k == 1) = false := by simp [h1]
  have e2 : (k == 2) = false := by simp [h2]
  have e3 : (k == 3) = false := by simp [h3]
  have e4 : (k == 4) = false := by simp [h4]
  clear e h1 h2 h3 h4
  go_enter Tryz.func80, Tryz.ntmps80
  go_wp2
  go_ret
  exact ⟨rfl, rfl⟩
theorem mkind_any (k : Int) (w : World) : Calls Tryz.prog 127 #[.int .u8 k] w fun e w' => e = .returned (.int .i64 (Mb.kin k)) ∧ w = w' := by
  by_cases h1 : k = 48
  · subst h1
    go_enter Tryz.func127, Tryz.ntmps127
    go_wp2
    go_ret
    exact ⟨rfl, rfl⟩
  by_cases h2 : k = 49
  · subst h2
    go_enter Tryz.func127, Tryz.ntmps127
    go_wp2
    go_ret
    exact ⟨rfl, rfl⟩
  by_cases h3 : k = 50
  · subst h3
    go_enter Tryz.func127, Tryz.ntmps127
    go_wp2
    go_ret
    exact ⟨rfl, rfl⟩
  by_cases h4 : k = 53
  · subst h4
    go_enter Tryz.func127, Tryz.ntmps127
    go_wp2
    go_ret
    exact ⟨rfl, rfl⟩
  have e : Mb.kin k = 0 := by unfold Mb.kin; rw [if_neg h1, if_neg h2, if_neg h3, if_neg h4]
  rw [e]
  have e1 : (k == 48) = false := by simp [h1]
  have e2 : (k == 49) = false := by simp [h2]
  have e3 : (k == 50) = false := by simp [h3]
  have e4 : (k == 53) = false := by simp [h4]
  clear e h1 h2 h3 h4
  go_enter Tryz.func127, Tryz.ntmps127
  go_wp2
  go_ret
  exact ⟨rfl, rfl⟩
theorem refmtype_any (k : Int) (w : World) (k0 : -9223372036854775808 ≤ k) (k1 : k ≤ 9223372036854775807) :
    Calls Tryz.prog 48 #[.int .i64 k] w fun e w' => e = .returned (.int .u8 (Mb.typ k)) ∧ Below w.heap.size w w' := by
  by_cases h : 1 ≤ k ∧ k ≤ 4
  · have : k = 1 ∨ k = 2 ∨ k = 3 ∨ k = 4 := by omega
    rcases this with rfl | rfl | rfl | rfl
    all_goals
      go_enter Tryz.func48, Tryz.ntmps48
      go_wp2
      go_ret
      exact ⟨rfl, (Below.refl _ _).alloc (Nat.le_refl _) _⟩
  · have e : Mb.typ k = 0 := by unfold Mb.typ; rw [if_neg (by omega), if_neg (by omega), if_neg (by omega), if_neg (by omega)]
    rw [e]
    clear e
    by_cases h1 : k < 1
    · clear h
      go_enter Tryz.func48, Tryz.ntmps48
      go_wp2
      go_ret
      exact ⟨rfl, Below.refl _ _⟩
    · have h2 : 4 < k := by omega
      clear h
      go_enter Tryz.func48, Tryz.ntmps48
      go_wp2
      go_ret
      exact ⟨rfl, Below.refl _ _⟩
theorem mwithin_any (z a b : Int) (w : World) : Calls Tryz.prog 116 #[.int .i64 z, .int .i64 a, .int .i64 b] w fun e w' => e = .returned (.bool (decide (a ≤ z) && decide (z ≤ b))) ∧ w = w' := by
  by_cases h1 : a ≤ z
  · by_cases h2 : z ≤ b
    · go_enter Tryz.func116, Tryz.ntmps116
      go_wp2
      go_ret
      refine ⟨ret_bool ?_, rfl⟩
      simp [h1, h2]
    · go_enter Tryz.func116, Tryz.ntmps116
      go_wp2
      go_ret
      refine ⟨ret_bool ?_, rfl⟩
      simp [h2]
  · go_enter Tryz.func116, Tryz.ntmps116
    go_wp2
    go_ret
    refine ⟨ret_bool ?_, rfl⟩
    simp
    try omega
theorem mmeta_any (m u g t : Int) (w : World) : Calls Tryz.prog 81 #[.agg #[.int .i64 m, .int .i64 u, .int .i64 g, .int .i64 t]] w fun e w' => e = .returned (.bool (Mb.numOk m u g t)) ∧ Below w.heap.size w w' := by
  have e : Mb.numOk m u g t = ((decide (0 ≤ m) && decide (m ≤ 4095)) && ((decide (0 ≤ u) && decide (u ≤ 1099511627775)) && ((decide (0 ≤ g) && decide (g ≤ 1099511627775)) && (decide (-1125899906842624 ≤ t) && decide (t ≤ 1125899906842624))))) := by
    unfold Mb.numOk
    simp only [Bool.and_assoc]
  have cm := fun W => mwithin_any m 0 4095 W
  have cu := fun W => mwithin_any u 0 1099511627775 W
  have cg := fun W => mwithin_any g 0 1099511627775 W
  have ct := fun W => mwithin_any t (-1125899906842624) 1125899906842624 W
  rw [e]
  clear e
  generalize (decide (0 ≤ m) && decide (m ≤ 4095)) = bm at *
  generalize (decide (0 ≤ u) && decide (u ≤ 1099511627775)) = bu at *
  generalize (decide (0 ≤ g) && decide (g ≤ 1099511627775)) = bg at *
  generalize (decide (-1125899906842624 ≤ t) && decide (t ≤ 1125899906842624)) = bt at *
  have CM := Lib.hid cm; have CU := Lib.hid cu; have CG := Lib.hid cg; have CT := Lib.hid ct
  clear cm cu cg ct
  go_enter Tryz.func81, Tryz.ntmps81
  cases bm <;> cases bu <;> cases bg
  all_goals
    go_wp2_with (first
      | (go_at_call 116; (with_reducible refine (CM.out _).mono ?_); rintro e w1 ⟨rfl, rfl⟩)
      | (go_at_call 116; (with_reducible refine (CU.out _).mono ?_); rintro e w1 ⟨rfl, rfl⟩)
      | (go_at_call 116; (with_reducible refine (CG.out _).mono ?_); rintro e w1 ⟨rfl, rfl⟩)
      | (go_at_call 116; (with_reducible refine (CT.out _).mono ?_); rintro e w1 ⟨rfl, rfl⟩))
    go_ret
    exact ⟨rfl, (Below.refl _ _).alloc (Nat.le_refl _) _⟩
theorem refmmeta_any (m u g t : Int) (w : World) : Calls Tryz.prog 65 #[.agg #[.int .i64 m, .int .i64 u, .int .i64 g, .int .i64 t]] w fun e w' => e = .returned (.bool (Mb.numOk m u g t)) ∧ Below w.heap.size w w' := by
  have e : Mb.numOk m u g t = (decide (0 ≤ m) && decide (m ≤ 4095) && decide (0 ≤ u) && decide (u ≤ 1099511627775) && decide (0 ≤ g) && decide (g ≤ 1099511627775) && decide (-1125899906842624 ≤ t) && decide (t ≤ 1125899906842624)) := rfl
  rw [e]
  clear e
  go_enter Tryz.func65, Tryz.ntmps65
  go_wp2
  all_goals
    go_ret
    refine ⟨ret_bool ?_, (Below.refl _ _).alloc (Nat.le_refl _) _⟩
    simp_all
    try omega
theorem mfirst_any (s : ByteArray) (w : World) (hs : s.size ≤ 1000000) : Calls Tryz.prog 88 #[.string s] w fun e w' => e = .returned (.string (Mb.first s)) ∧ w = w' := by
  by_cases h : s.size ≤ 100
  · have e := Lib.hid (Mb.first_all h)
    have h' : min (s.size : Int) 100 = s.size := by omega
    have x : s.extract 0 s.size = s := Pp.ext_all s
    have h2 : (s.size : Int) ≤ 100 := by omega
    go_enter Tryz.func88, Tryz.ntmps88
    go_wp2
    go_ret
    refine ⟨?_, rfl⟩
    rw [e.out]
    first | rfl | (rw [x]) | simp [x]
  · have e := Lib.hid (show Mb.first s = s.extract 0 100 by unfold Mb.first; rw [show min s.size 100 = 100 by omega])
    have h' : min (s.size : Int) 100 = 100 := by omega
    have h2 : ¬ (s.size : Int) ≤ 100 := by omega
    have h3 : (100 : Nat) ≤ s.size := by omega
    go_enter Tryz.func88, Tryz.ntmps88
    go_wp2
    go_ret
    exact ⟨by rw [e.out]; rfl, rfl⟩
end Go.Proofs.YtjofdgjcbjdhbaaGreatDoor
/- WALKS OF LAYER 8, SECOND PART: two members held against each other; a member of the law's made the code's; whether a text has a 0; what a header's records tell. -/
namespace Go.Proofs.YtjofdgjcbjdhbaaGreatDoor
open Go Go.RowKit
set_option maxHeartbeats 1600000
set_option maxRecDepth 100000
set_option linter.unusedVariables false
theorem dec5000 (n : Nat) : decide ((5000 : Int) < n) = decide (5000 < n) := decide_eq_decide.2 (by omega)
theorem dec600' (n : Nat) : decide ((600 : Int) < n) = decide (600 < n) := decide_eq_decide.2 (by omega)
/-- Has a member too much? -/
def farM (p l : ByteArray) (n : Nat) : Bool := decide (600 < p.size) || decide (600 < l.size) || decide (5000 < n)
/-- Are two members the same? -/
def sameM (p l p2 l2 : ByteArray) (k m u g t k2 m2 u2 g2 t2 : Int) (xs ys : List Int) : Bool :=
  decide (p = p2) && (decide (k = k2) && (decide (m = m2 ∧ u = u2 ∧ g = g2 ∧ t = t2) && (decide (l = l2) && decide (xs = ys))))
theorem textB (a b : ByteArray) : (a.toList == b.toList) = decide (a = b) := Pp.toList_eq a b
theorem msame_any (p l : ByteArray) (k m u g t : Int) (A : Option Addr) (n c : Nat) (p2 l2 : ByteArray) (k2 m2 u2 g2 t2 : Int) (A2 : Option Addr) (n2 c2 : Nat) (xs ys : List Int) (w : World) (ha : RB w w.heap.size A n xs) (hb : RB w w.heap.size A2 n2 ys) (hx : Byt xs) (hy : Byt ys) (hn : n ≤ 1000000) (hn2 : n2 ≤ 1000000) :
    Calls Tryz.prog 16 #[.agg #[.string p, .int .i64 k, .int .i64 m, .int .i64 u, .int .i64 g, .int .i64 t, .string l, .slice A n c], .agg #[.string p2, .int .i64 k2, .int .i64 m2, .int .i64 u2, .int .i64 g2, .int .i64 t2, .string l2, .slice A2 n2 c2]] w fun e w' => e = .returned (.bool (sameM p l p2 l2 k m u g t k2 m2 u2 g2 t2 xs ys)) ∧ Below w.heap.size w w' := by
  have ceq := fun W (bw : Below w.heap.size w W) => equal_any A A2 n n2 c c2 xs ys W ((ha.below bw).more bw.size) ((hb.below bw).more bw.size) hx hy
  unfold sameM
  generalize decide (xs = ys) = be at *
  have CEQ := Lib.hid ceq
  clear ceq ha hb hx hy
  go_enter Tryz.func16, Tryz.ntmps16
  go_wp2_with (go_at_call 32; (with_reducible refine (CEQ.out _ (((Below.refl _ _).alloc (Nat.le_refl _) _).alloc (by simp) _)).mono ?_); rintro e w2 ⟨rfl, rfl⟩)
  all_goals
    go_ret
    refine ⟨ret_bool ?_, ((Below.refl _ _).alloc (Nat.le_refl _) _).alloc (by simp) _⟩
    simp_all [toList_iff]
theorem mtold_any (A : Option Addr) (n c : Nat) (rs : List Rc.Rec) (key d : ByteArray) (w : World) (hl : RL w w.heap.size A n rs) (hn : n ≤ 100000) :
    Calls Tryz.prog 125 #[.slice A n c, .string key, .string d] w fun e w' => e = .returned (.string (Mb.told8 rs key d)) ∧ w = w' := by
  have F := Lib.hid (find6_any A n c rs key w hl hn)
  unfold findV at F
  unfold Mb.told8
  cases h : Rc.findR key rs with
  | none =>
    rw [h] at F
    clear h hl
    go_enter Tryz.func125, Tryz.ntmps125
    go_wp2_with (go_at_call 124; (with_reducible refine (F.out).mono ?_); rintro e w1 ⟨rfl, rfl⟩)
    go_ret
    exact ⟨rfl, rfl⟩
  | some v =>
    rw [h] at F
    clear h hl
    go_enter Tryz.func125, Tryz.ntmps125
    go_wp2_with (go_at_call 124; (with_reducible refine (F.out).mono ?_); rintro e w1 ⟨rfl, rfl⟩)
    go_ret
    exact ⟨rfl, rfl⟩
theorem has_loose (s : ByteArray) : (decide (strOfNums (Sf.looseS (Rc.ints s.data.toList)) = s)) = !Mb.has0 s := by
  have e : Rc.ints s.data.toList = Sf.nums s := rfl
  rw [e]
  have hz : Sf.zi (Sf.nums s) = Sf.zb s.data.toList := by
    have := Sf.zb_strOfNums (Sf.nums s) (Sf.byt_nums s)
    rw [Sf.str_nums] at this
    exact this.symm
  have hl : (Sf.nums s).length = s.size := by simp [Sf.nums]
  have hle := Sf.zb_size s
  unfold Mb.has0
  by_cases h : Sf.zb s.data.toList < s.size
  · have h1 : ¬ strOfNums (Sf.looseS (Sf.nums s)) = s := fun h2 => by
      have := congrArg ByteArray.size h2
      rw [Sf.size_strOfNums] at this
      unfold Sf.looseS at this
      rw [List.length_take, hz, hl] at this
      omega
    rw [decide_eq_true h, decide_eq_false h1]
    rfl
  · have h1 : strOfNums (Sf.looseS (Sf.nums s)) = s := by
      unfold Sf.looseS
      rw [hz, List.take_of_length_le (by omega), Sf.str_nums]
    rw [decide_eq_false h, decide_eq_true h1]
    rfl
theorem mhas_any (s : ByteArray) (w : World) (hs : s.size ≤ 1000000) : Calls Tryz.prog 96 #[.string s] w fun e w' => e = .returned (.bool (Mb.has0 s)) ∧ Below w.heap.size w w' := by
  have hr : RB (Lib.bytesWorld w 5 s) (Lib.bytesWorld w 5 s).heap.size (some ⟨w.heap.size, 0, none⟩) s.size (Rc.ints s.data.toList) := by
    obtain ⟨A, c, ev, hr, h1, h2⟩ := conv_rv w s hs 5
    injection ev with e1 e2 e3
    subst e1
    exact hr
  have cb := conv_below (Below.refl w.heap.size w) (Nat.le_refl _) s 5
  have cl := refloose_any (some ⟨w.heap.size, 0, none⟩) s.size (grownCap w s.size 0 5) (Rc.ints s.data.toList) _ hr (Rc.ints_byt _) (by omega)
  have cr := conv_run s w
  have hh := has_loose s
  rw [← textB] at hh
  generalize strOfNums (Sf.looseS (Rc.ints s.data.toList)) = r at *
  generalize Lib.bytesWorld w 5 s = w1 at *
  generalize grownCap w s.size 0 5 = cc at *
  generalize Mb.has0 s = b at *
  have CL := Lib.hid cl; have CB := Lib.hid cb; have HH := Lib.hid hh
  clear cl cb hr hh
  go_enter Tryz.func96, Tryz.ntmps96
  go_wp2_with (go_at_call 129; (with_reducible refine (CL.out).mono ?_); rintro e w2 ⟨rfl, rfl⟩)
  go_ret
  refine ⟨ret_bool ?_, CB.out⟩
  simp [HH.out]
end Go.Proofs.YtjofdgjcbjdhbaaGreatDoor
/- WALKS OF LAYER 8, THIRD PART: may a member be? the code's and the reference's. -/
namespace Go.Proofs.YtjofdgjcbjdhbaaGreatDoor
open Go Go.RowKit
set_option maxHeartbeats 1600000
set_option maxRecDepth 100000
set_option linter.unusedVariables false
namespace Mb
/-- May a link be, of a kind? the error's number. -/
def linkE (k : Int) (l : ByteArray) : Int :=
  if k = 2 then (if path l = true then 0 else 8) else if k = 3 then (if l.size = 0 ∨ has0 l = true then 3 else if 300 < l.size then 10 else 0) else (if l.size = 0 then 0 else 3)
theorem kind_link {k : Int} (l : ByteArray) (n : Nat) (h1 : ¬ (k = 1 ∧ 4096 < n)) : kindE k l n = if linkE k l = 0 then (if k ≠ 1 ∧ 0 < n then 3 else 0) else linkE k l := by
  unfold kindE linkE
  by_cases a : k = 1
  · subst a
    rw [if_pos rfl, if_neg (show ¬ 4096 < n by omega)]
    by_cases c : l.size = 0 <;> simp [c]
  · rw [if_neg a]
    by_cases b : k = 2
    · subst b
      by_cases c : path l = true <;> by_cases d : n = 0 <;> simp [c, d] <;> omega
    · rw [if_neg b, if_neg b]
      by_cases c : k = 3
      · subst c
        rw [if_pos rfl, if_pos rfl]
        by_cases e : l.size = 0 ∨ has0 l = true
        · rw [if_pos e, if_pos e]; rfl
        · rw [if_neg e, if_neg e]
          by_cases f : 300 < l.size
          · rw [if_pos f, if_pos f]; rfl
          · rw [if_neg f, if_neg f]
            by_cases d : n = 0 <;> simp [d] <;> omega
      · rw [if_neg c, if_neg c]
        by_cases e : l.size = 0 <;> by_cases d : n = 0 <;> simp [e, d, a] <;> omega
end Mb
theorem mb_box {w W : World} {T : TypeId} {cs : Array Value} (h : Below (w.alloc (.cells cs T)).heap.size (w.alloc (.cells cs T)) W) : BX W w.heap.size T cs := (BX.new w T cs).later h
theorem mbBox {w W : World} {T : TypeId} {cs : Array Value} (h : Below (w.alloc (.cells cs T)).heap.size (w.alloc (.cells cs T)) W) : BX W w.heap.size T cs := mb_box h
theorem mb_below {w W : World} {o : Obj} (h : Below (w.alloc o).heap.size (w.alloc o) W) : Below w.heap.size w W := ((Below.refl _ w).alloc (Nat.le_refl _) o).trans (h.mono (by simp))
theorem mb_new (w : World) (o : Obj) : Below w.heap.size w (w.alloc o) := (Below.refl _ w).alloc (Nat.le_refl _) o
theorem refmlink_any (p l : ByteArray) (k m u g t : Int) (A : Option Addr) (n c : Nat) (w : World) (hl : l.size ≤ 1000000) :
    Calls Tryz.prog 66 #[.agg #[.string p, .int .i64 k, .int .i64 m, .int .i64 u, .int .i64 g, .int .i64 t, .string l, .slice A n c]] w fun e w' => e = .returned (.int .i64 (Mb.linkE k l)) ∧ Below w.heap.size w w' := by
  have emp := empty_iff l
  unfold Mb.linkE
  by_cases h2 : k = 2
  · subst h2
    rw [if_pos rfl]
    have cp := fun W => refparts_any l W hl
    unfold Mb.path
    obtain ⟨⟨L, cc⟩, hP⟩ : ∃ P, Pp.partsS l = P := ⟨_, rfl⟩
    rw [hP] at cp ⊢
    have CP := Lib.hid cp
    clear cp hP emp
    by_cases hc : cc = 0
    · subst hc
      go_enter Tryz.func66, Tryz.ntmps66
      go_wp2_with (go_at_call 64; (with_reducible refine (CP.out _).mono ?_); rintro e w1 ⟨v, rfl, _, hb1⟩)
      go_ret
      exact ⟨rfl, mb_below hb1⟩
    · have g : (cc == 0) = false := by simp [hc]
      have g2 : (cc != 0) = true := by simp [hc]
      clear hc
      go_enter Tryz.func66, Tryz.ntmps66
      go_wp2_with (go_at_call 64; (with_reducible refine (CP.out _).mono ?_); rintro e w1 ⟨v, rfl, _, hb1⟩)
      go_ret
      exact ⟨by simp, mb_below hb1⟩
  · rw [if_neg h2]
    have e2 : (k == 2) = false := by simp [h2]
    by_cases h3 : k = 3
    · subst h3
      clear e2
      rw [if_pos rfl]
      by_cases h0 : l.size = 0
      · rw [if_pos (.inl h0)]
        rw [decide_eq_true h0] at emp
        go_enter Tryz.func66, Tryz.ntmps66
        go_wp2
        go_ret
        exact ⟨rfl, mb_new _ _⟩
      · rw [decide_eq_false h0] at emp
        have ch := fun W => mhas_any l W hl
        by_cases hh : Mb.has0 l = true
        · rw [if_pos (.inr hh)]
          rw [hh] at ch
          have CH := Lib.hid ch
          clear ch hh h0
          go_enter Tryz.func66, Tryz.ntmps66
          go_wp2_with (go_at_call 96; (with_reducible refine (CH.out _).mono ?_); rintro e w1 ⟨rfl, hb1⟩)
          go_ret
          exact ⟨rfl, mb_below hb1⟩
        · rw [if_neg (fun h => h.elim h0 hh)]
          have hh' : Mb.has0 l = false := by simpa using hh
          rw [hh'] at ch
          have CH := Lib.hid ch
          clear ch hh h0 hh'
          by_cases hs : 300 < l.size
          · have hs' : (300 : Int) < l.size := by omega
            rw [if_pos hs]
            go_enter Tryz.func66, Tryz.ntmps66
            go_wp2_with (go_at_call 96; (with_reducible refine (CH.out _).mono ?_); rintro e w1 ⟨rfl, hb1⟩; have q6 : w1.cell? ⟨w.heap.size, 6, none⟩ = some (.string l) := (mb_box hb1).cell rfl)
            go_ret
            exact ⟨rfl, mb_below hb1⟩
          · have hs' : ¬ (300 : Int) < l.size := by omega
            rw [if_neg hs]
            go_enter Tryz.func66, Tryz.ntmps66
            go_wp2_with (go_at_call 96; (with_reducible refine (CH.out _).mono ?_); rintro e w1 ⟨rfl, hb1⟩; have q6 : w1.cell? ⟨w.heap.size, 6, none⟩ = some (.string l) := (mb_box hb1).cell rfl)
            go_ret
            exact ⟨rfl, mb_below hb1⟩
    · rw [if_neg h3]
      have e3 : (k == 3) = false := by simp [h3]
      clear h2 h3
      by_cases h0 : l.size = 0
      · rw [if_pos h0]
        rw [decide_eq_true h0] at emp
        go_enter Tryz.func66, Tryz.ntmps66
        go_wp2
        go_ret
        exact ⟨rfl, mb_new _ _⟩
      · rw [if_neg h0]
        rw [decide_eq_false h0] at emp
        go_enter Tryz.func66, Tryz.ntmps66
        go_wp2
        go_ret
        exact ⟨rfl, mb_new _ _⟩
end Go.Proofs.YtjofdgjcbjdhbaaGreatDoor
/- WALKS OF LAYER 9, FIRST PART: lists of members, and of items, in memory. -/
namespace Go.Proofs.YtjofdgjcbjdhbaaGreatDoor
open Go Go.RowKit
set_option linter.unusedVariables false
set_option maxHeartbeats 1000000
/-- A member as it lies in memory; z: where it ends. -/
structure It where
  p : ByteArray
  l : ByteArray
  k : Int
  m : Int
  u : Int
  g : Int
  t : Int
  A : Option Addr
  n : Nat
  c : Nat
  xs : List Int
  z : Nat
def It.mem (x : It) : Ar.Mem := ⟨x.p, x.l, x.k, x.m, x.u, x.g, x.t, x.xs⟩
def c8 (x : It) : List Value := [.string x.p, .int .i64 x.k, .int .i64 x.m, .int .i64 x.u, .int .i64 x.g, .int .i64 x.t, .string x.l, .slice x.A x.n x.c]
def c9 (x : It) : List Value := [.string x.p, .int .i64 x.k, .int .i64 x.m, .int .i64 x.u, .int .i64 x.g, .int .i64 x.t, .string x.l, .slice x.A x.n x.c, .int .i64 (x.z : Int)]
theorem flat_len {α : Type} {f : α → List Value} {s : Nat} (hf : ∀ x, (f x).length = s) : ∀ l : List α, (l.flatMap f).length = l.length * s
  | [] => by simp
  | x :: t => by
    rw [List.flatMap_cons, List.length_append, hf, flat_len hf t, List.length_cons, Nat.succ_mul]
    omega
theorem flat_at {α : Type} {f : α → List Value} {s : Nat} (hf : ∀ x, (f x).length = s) : ∀ {l : List α} {j i : Nat} {x : α} {v : Value}, l[j]? = some x → (f x)[i]? = some v → (l.flatMap f)[j * s + i]? = some v
  | [], j, i, x, v, h, _ => by simp at h
  | y :: t, 0, i, x, v, h, hv => by
    obtain rfl : y = x := by simpa using h
    have hi := (List.getElem?_eq_some_iff.1 hv).1
    rw [List.flatMap_cons, Nat.zero_mul, Nat.zero_add, List.getElem?_append_left hi]
    exact hv
  | y :: t, j + 1, i, x, v, h, hv => by
    have h' : t[j]? = some x := by simpa using h
    rw [List.flatMap_cons, List.getElem?_append_right (by rw [hf, Nat.succ_mul]; omega), hf, show (j + 1) * s + i - s = j * s + i by rw [Nat.succ_mul]; omega]
    exact flat_at hf h' hv
/-- THE SLICE VALUE '.slice A n c' READS AS A ROW OF STRUCTS of s cells each. -/
def RS (s : Nat) (f : It → List Value) (w : World) (B : Nat) (A : Option Addr) (n : Nat) (its : List It) : Prop :=
  its.length = n ∧ (0 < n → ∃ b o, A = some ⟨b, o, none⟩ ∧ b < B ∧ ∀ j x, its[j]? = some x → ∀ i v, (f x)[i]? = some v → w.cell? ⟨b, o + j * s + i, none⟩ = some v)
/-- Each one's bytes. -/
def Dat (w : World) (B : Nat) (its : List It) : Prop := ∀ x ∈ its, RB w B x.A x.n x.xs ∧ x.n ≤ x.c ∧ x.c ≤ maxLen
/-- A row of members, of items. -/
def ML (w : World) (B : Nat) (A : Option Addr) (n : Nat) (its : List It) : Prop := RS 8 c8 w B A n its ∧ Dat w B its
def IL (w : World) (B : Nat) (A : Option Addr) (n : Nat) (its : List It) : Prop := RS 9 c9 w B A n its ∧ Dat w B its
section
variable {w w' : World} {B B' n s : Nat} {A : Option Addr} {its : List It} {f : It → List Value}
theorem RS.below (h : RS s f w B A n its) (hb : Below B w w') : RS s f w' B A n its :=
  ⟨h.1, fun hn => by
    obtain ⟨b, o, e, hlt, hc⟩ := h.2 hn
    exact ⟨b, o, e, hlt, fun j x hj i v hv => (hb.cell (p := ⟨b, o + j * s + i, none⟩) hlt).trans (hc j x hj i v hv)⟩⟩
theorem RS.more (h : RS s f w B A n its) (hB : B ≤ B') : RS s f w B' A n its :=
  ⟨h.1, fun hn => by
    obtain ⟨b, o, e, hlt, hc⟩ := h.2 hn
    exact ⟨b, o, e, by omega, hc⟩⟩
theorem Dat.below (h : Dat w B its) (hb : Below B w w') : Dat w' B its := fun x hx => ⟨(h x hx).1.below hb, (h x hx).2⟩
theorem Dat.more (h : Dat w B its) (hB : B ≤ B') : Dat w B' its := fun x hx => ⟨(h x hx).1.more hB, (h x hx).2⟩
theorem Dat.nil : Dat w B [] := fun x hx => by cases hx
theorem ML.below (h : ML w B A n its) (hb : Below B w w') : ML w' B A n its := ⟨h.1.below hb, h.2.below hb⟩
theorem ML.more (h : ML w B A n its) (hB : B ≤ B') : ML w B' A n its := ⟨h.1.more hB, h.2.more hB⟩
theorem IL.below (h : IL w B A n its) (hb : Below B w w') : IL w' B A n its := ⟨h.1.below hb, h.2.below hb⟩
theorem IL.more (h : IL w B A n its) (hB : B ≤ B') : IL w B' A n its := ⟨h.1.more hB, h.2.more hB⟩
theorem ML.nil : ML w B A 0 [] := ⟨⟨rfl, fun h => absurd h (by omega)⟩, Dat.nil⟩
theorem IL.nil : IL w B A 0 [] := ⟨⟨rfl, fun h => absurd h (by omega)⟩, Dat.nil⟩
theorem ML.len (h : ML w B A n its) : its.length = n := h.1.1
theorem IL.len (h : IL w B A n its) : its.length = n := h.1.1
theorem ML.at_ (h : ML w B A n its) {j : Nat} (hj : j < n) :
    ∃ b o p l k m u g t A' n' c' xs z, A = some ⟨b, o, none⟩ ∧ b < B ∧ its[j]? = some ⟨p, l, k, m, u, g, t, A', n', c', xs, z⟩ ∧ w.cell? ⟨b, o + j * 8, none⟩ = some (.string p) ∧ w.cell? ⟨b, o + j * 8 + 1, none⟩ = some (.int .i64 k) ∧ w.cell? ⟨b, o + j * 8 + 2, none⟩ = some (.int .i64 m) ∧
      w.cell? ⟨b, o + j * 8 + 3, none⟩ = some (.int .i64 u) ∧ w.cell? ⟨b, o + j * 8 + 4, none⟩ = some (.int .i64 g) ∧ w.cell? ⟨b, o + j * 8 + 5, none⟩ = some (.int .i64 t) ∧ w.cell? ⟨b, o + j * 8 + 6, none⟩ = some (.string l) ∧ w.cell? ⟨b, o + j * 8 + 7, none⟩ = some (.slice A' n' c') ∧
      RB w B A' n' xs ∧ n' ≤ c' ∧ c' ≤ maxLen := by
  obtain ⟨b, o, e, hlt, hc⟩ := h.1.2 (by omega)
  have hjl : j < its.length := by have := h.1.1; omega
  have hx : its[j]? = some (its[j]) := List.getElem?_eq_getElem _
  have hd := h.2 _ (List.getElem_mem hjl)
  have hc' := hc j _ hx
  generalize its[j] = x at *
  obtain ⟨p, l, k, m, u, g, t, A', n', c', xs, z⟩ := x
  exact ⟨b, o, p, l, k, m, u, g, t, A', n', c', xs, z, e, hlt, hx, hc' 0 _ rfl, hc' 1 _ rfl, hc' 2 _ rfl, hc' 3 _ rfl, hc' 4 _ rfl, hc' 5 _ rfl, hc' 6 _ rfl, hc' 7 _ rfl, hd⟩
theorem IL.at_ (h : IL w B A n its) {j : Nat} (hj : j < n) :
    ∃ b o p l k m u g t A' n' c' xs z, A = some ⟨b, o, none⟩ ∧ b < B ∧ its[j]? = some ⟨p, l, k, m, u, g, t, A', n', c', xs, z⟩ ∧ w.cell? ⟨b, o + j * 9, none⟩ = some (.string p) ∧ w.cell? ⟨b, o + j * 9 + 1, none⟩ = some (.int .i64 k) ∧ w.cell? ⟨b, o + j * 9 + 2, none⟩ = some (.int .i64 m) ∧
      w.cell? ⟨b, o + j * 9 + 3, none⟩ = some (.int .i64 u) ∧ w.cell? ⟨b, o + j * 9 + 4, none⟩ = some (.int .i64 g) ∧ w.cell? ⟨b, o + j * 9 + 5, none⟩ = some (.int .i64 t) ∧ w.cell? ⟨b, o + j * 9 + 6, none⟩ = some (.string l) ∧ w.cell? ⟨b, o + j * 9 + 7, none⟩ = some (.slice A' n' c') ∧
      w.cell? ⟨b, o + j * 9 + 8, none⟩ = some (.int .i64 (z : Int)) ∧ RB w B A' n' xs ∧ n' ≤ c' ∧ c' ≤ maxLen := by
  obtain ⟨b, o, e, hlt, hc⟩ := h.1.2 (by omega)
  have hjl : j < its.length := by have := h.1.1; omega
  have hx : its[j]? = some (its[j]) := List.getElem?_eq_getElem _
  have hd := h.2 _ (List.getElem_mem hjl)
  have hc' := hc j _ hx
  generalize its[j] = x at *
  obtain ⟨p, l, k, m, u, g, t, A', n', c', xs, z⟩ := x
  exact ⟨b, o, p, l, k, m, u, g, t, A', n', c', xs, z, e, hlt, hx, hc' 0 _ rfl, hc' 1 _ rfl, hc' 2 _ rfl, hc' 3 _ rfl, hc' 4 _ rfl, hc' 5 _ rfl, hc' 6 _ rfl, hc' 7 _ rfl, hc' 8 _ rfl, hd⟩
end
/-- What an owned row of structs reads as. -/
theorem owns_rs {w : World} {base s : Nat} {e : TypeId} {v : Value} {its : List It} {f : It → List Value} (hf : ∀ x, (f x).length = s) (h : w.ownsRow base e s v its.length (its.flatMap f)) :
    ∃ A c, v = .slice A its.length c ∧ RS s f w w.heap.size A its.length its ∧ its.length ≤ c ∧ c ≤ maxLen := by
  have hh := h
  rcases h.2 with ⟨rfl, h0⟩ | ⟨g, cap, cur, rfl, hb, hg, hnc, hcm, hcs, htake⟩
  · have : its = [] := List.eq_nil_of_length_eq_zero h0
    subst this
    exact ⟨none, 0, rfl, ⟨rfl, fun h => absurd h (by simp)⟩, Nat.le_refl _, Nat.zero_le _⟩
  · refine ⟨_, cap, rfl, ⟨rfl, fun hn => ⟨g, 0, rfl, (World.ownsRow.lt hh g rfl).2, fun j x hj i v hv => ?_⟩⟩, hnc, hcm⟩
    have e1 := flat_at hf hj hv
    have a0 := World.ownsRow.cellAt hh (j * s + i) (by have := (List.getElem?_eq_some_iff.1 e1).1; rwa [flat_len hf] at this)
    rw [Nat.zero_add, a0]
    exact e1
theorem c8_len (x : It) : (c8 x).length = 8 := rfl
theorem c9_len (x : It) : (c9 x).length = 9 := rfl
/-- A row of members that is the call's own. -/
def MO (w : World) (base : Nat) (e : TypeId) (v : Value) (its : List It) : Prop := w.ownsRow base e 8 v its.length (its.flatMap c8) ∧ Dat w w.heap.size its
/-- THE SLICE VALUE v READS AS MEMBERS, AS ITEMS. -/
def MLV (w : World) (v : Value) (its : List It) : Prop := ∃ A c, v = .slice A its.length c ∧ ML w w.heap.size A its.length its ∧ its.length ≤ c ∧ c ≤ maxLen
def ILV (w : World) (v : Value) (its : List It) : Prop := ∃ A c, v = .slice A its.length c ∧ IL w w.heap.size A its.length its ∧ its.length ≤ c ∧ c ≤ maxLen
theorem MLV.later {w w' : World} {v : Value} {its : List It} (h : MLV w v its) (hb : Below w.heap.size w w') : MLV w' v its := by
  obtain ⟨A, c, e, h1, h2, h3⟩ := h
  exact ⟨A, c, e, (h1.below hb).more hb.size, h2, h3⟩
theorem ILV.later {w w' : World} {v : Value} {its : List It} (h : ILV w v its) (hb : Below w.heap.size w w') : ILV w' v its := by
  obtain ⟨A, c, e, h1, h2, h3⟩ := h
  exact ⟨A, c, e, (h1.below hb).more hb.size, h2, h3⟩
theorem MO.mlv {w : World} {base : Nat} {e : TypeId} {v : Value} {its : List It} (h : MO w base e v its) : MLV w v its := by
  obtain ⟨A, c, e1, h1, h2, h3⟩ := owns_rs c8_len h.1
  exact ⟨A, c, e1, ⟨h1, h.2⟩, h2, h3⟩
theorem MO.later {w w' : World} {base : Nat} {e : TypeId} {v : Value} {its : List It} (h : MO w base e v its) (hb : Below w.heap.size w w') : MO w' base e v its :=
  ⟨owns_below h.1 hb, (h.2.below hb).more hb.size⟩
theorem MO.nil (w : World) (base : Nat) (e : TypeId) : MO w base e (.slice none 0 0) [] := ⟨World.ownsRow_nil _ _ _ _, Dat.nil⟩
/-- Cells of a new block. -/
theorem news_of (w : World) (e : TypeId) (vs : List Value) : ∀ (j : Nat) u, vs[j]? = some u → (w.alloc (.cells vs.toArray e)).cell? ((⟨w.heap.size, 0, none⟩ : Addr).add j) = some u := by
  intro j u hj
  rw [Lib.add_plain, Nat.zero_add]
  exact (BX.new w e _).cell (by simpa using hj)
theorem c8_one (x : It) : ∀ u ∈ c8 x, u.oneCell' = true := by
  intro u hu
  simp only [c8, List.mem_cons, List.not_mem_nil, or_false] at hu
  rcases hu with rfl | rfl | rfl | rfl | rfl | rfl | rfl | rfl <;> rfl
theorem c9_one (x : It) : ∀ u ∈ c9 x, u.oneCell' = true := by
  intro u hu
  simp only [c9, List.mem_cons, List.not_mem_nil, or_false] at hu
  rcases hu with rfl | rfl | rfl | rfl | rfl | rfl | rfl | rfl | rfl <;> rfl
end Go.Proofs.YtjofdgjcbjdhbaaGreatDoor
/- WALKS OF LAYER 8, FOURTH PART: may a member be? the code's and the reference's, whole. -/
namespace Go.Proofs.YtjofdgjcbjdhbaaGreatDoor
open Go Go.RowKit
set_option maxHeartbeats 1600000
set_option maxRecDepth 100000
set_option linter.unusedVariables false
theorem ix0 {l : ByteArray} {b : Bool} (h : Mb.has0 l = b) : decide (0 ≤ Lib.indexByte l.data.toList ((0 : Int).toNat.toUInt8)) = b := by
  rw [show ((0 : Int).toNat.toUInt8) = 0 from rfl, Sf.indexByte_zb]
  have e : Mb.has0 l = decide (Sf.zb l.data.toList < l.data.toList.length) := rfl
  rw [e] at h
  subst h
  by_cases c : Sf.zb l.data.toList < l.data.toList.length
  · rw [if_pos c, decide_eq_true c, decide_eq_true (by omega)]
  · rw [if_neg c, decide_eq_false c]; rfl
theorem mkindof_any (p l : ByteArray) (k m u g t : Int) (A : Option Addr) (n c : Nat) (w : World) (hl : l.size ≤ 1000000) (hn : n ≤ 1000000) (h1 : 1 ≤ k) (h4 : k ≤ 4) :
    Calls Tryz.prog 82 #[.agg #[.string p, .int .i64 k, .int .i64 m, .int .i64 u, .int .i64 g, .int .i64 t, .string l, .slice A n c]] w fun e w' => e = .returned (.int .i64 (Mb.kindE k l n)) ∧ Below w.heap.size w w' := by
  have emp := empty_iff l
  have ci := fun W => ibs_any l 0 W
  have i0 := fun b (h : Mb.has0 l = b) => ix0 h
  generalize Lib.indexByte l.data.toList ((0 : Int).toNat.toUInt8) = z at *
  have I0 := Lib.hid i0; have CI := Lib.hid ci
  clear i0 ci
  unfold Mb.kindE
  have : k = 1 ∨ k = 2 ∨ k = 3 ∨ k = 4 := by omega
  rcases this with rfl | rfl | rfl | rfl
  · clear h1 h4
    rw [if_pos rfl]
    by_cases hb : 4096 < n
    · rw [if_pos hb]
      have hb' : (4096 : Int) < n := by omega
      go_enter Tryz.func82, Tryz.ntmps82
      go_wp2
      go_ret
      exact ⟨rfl, mb_new _ _⟩
    · rw [if_neg hb]
      have hb' : ¬ (4096 : Int) < n := by omega
      by_cases h0 : l.size = 0
      · rw [if_pos h0]
        rw [decide_eq_true h0] at emp
        go_enter Tryz.func82, Tryz.ntmps82
        go_wp2
        go_ret
        exact ⟨rfl, mb_new _ _⟩
      · rw [if_neg h0]
        rw [decide_eq_false h0] at emp
        go_enter Tryz.func82, Tryz.ntmps82
        go_wp2
        go_ret
        exact ⟨rfl, mb_new _ _⟩
  · clear h1 h4
    rw [if_neg (by decide), if_pos rfl]
    have cp := fun W => may_any l W hl
    have pf := fun h => Mb.path_facts (s := l) h
    rw [show ((Pp.partsS l).2 == 0) = Mb.path l from rfl] at cp
    cases hp : Mb.path l with
    | false =>
      rw [hp] at cp
      rw [if_neg (by decide)]
      have CP := Lib.hid cp
      clear cp pf hp emp
      go_enter Tryz.func82, Tryz.ntmps82
      go_wp2_with (go_at_call 79; (with_reducible refine (CP.out _).mono ?_); rintro e w1 ⟨rfl, hb1⟩)
      go_ret
      exact ⟨rfl, mb_below hb1⟩
    | true =>
      rw [hp] at cp
      rw [if_pos rfl]
      obtain ⟨f1, f2, f3⟩ := pf hp
      have CP := Lib.hid cp
      have hz := I0.out false (Mb.nz_has0 f3)
      have hz' : ¬ 0 ≤ z := by simpa using hz
      have hs' : ¬ (300 : Int) < l.size := by omega
      rw [decide_eq_false (by omega)] at emp
      clear cp pf hp f1 f2 f3 hz
      by_cases h0 : n = 0
      · subst h0
        rw [if_pos rfl]
        go_enter Tryz.func82, Tryz.ntmps82
        go_wp2_with (first
          | (go_at_call 79; (with_reducible refine (CP.out _).mono ?_); rintro e w1 ⟨rfl, hb1⟩; have q6 : w1.cell? ⟨w.heap.size, 6, none⟩ = some (.string l) := (mb_box hb1).cell rfl; have q7 : w1.cell? ⟨w.heap.size, 7, none⟩ = some (.slice A 0 c) := (mb_box hb1).cell rfl; have q1 : w1.cell? ⟨w.heap.size, 1, none⟩ = some (.int .i64 2) := (mb_box hb1).cell rfl; have HB := Lib.hid hb1; clear hb1)
          | (go_at_call 117; (with_reducible refine (CI.out _).mono ?_); rintro e w2 ⟨rfl, rfl⟩))
        go_ret
        exact ⟨rfl, mb_below HB.out⟩
      · rw [if_neg h0]
        have h0' : (0 : Int) < n := by omega
        go_enter Tryz.func82, Tryz.ntmps82
        go_wp2_with (first
          | (go_at_call 79; (with_reducible refine (CP.out _).mono ?_); rintro e w1 ⟨rfl, hb1⟩; have q6 : w1.cell? ⟨w.heap.size, 6, none⟩ = some (.string l) := (mb_box hb1).cell rfl; have q7 : w1.cell? ⟨w.heap.size, 7, none⟩ = some (.slice A n c) := (mb_box hb1).cell rfl; have q1 : w1.cell? ⟨w.heap.size, 1, none⟩ = some (.int .i64 2) := (mb_box hb1).cell rfl; have HB := Lib.hid hb1; clear hb1)
          | (go_at_call 117; (with_reducible refine (CI.out _).mono ?_); rintro e w2 ⟨rfl, rfl⟩))
        go_ret
        exact ⟨rfl, mb_below HB.out⟩
  · clear h1 h4
    rw [if_neg (by decide), if_neg (by decide), if_pos rfl]
    by_cases h0 : l.size = 0
    · rw [if_pos (.inl h0)]
      rw [decide_eq_true h0] at emp
      go_enter Tryz.func82, Tryz.ntmps82
      go_wp2
      go_ret
      exact ⟨rfl, mb_new _ _⟩
    · rw [decide_eq_false h0] at emp
      cases hh : Mb.has0 l with
      | true =>
        rw [if_pos (.inr rfl)]
        have hz := I0.out _ hh
        have hz' : 0 ≤ z := by simpa using hz
        clear hz hh h0
        go_enter Tryz.func82, Tryz.ntmps82
        go_wp2_with (go_at_call 117; (with_reducible refine (CI.out _).mono ?_); rintro e w2 ⟨rfl, rfl⟩)
        go_ret
        exact ⟨rfl, mb_new _ _⟩
      | false =>
        rw [if_neg (fun h => h.elim h0 (by decide))]
        have hz := I0.out _ hh
        have hz' : ¬ 0 ≤ z := by simpa using hz
        clear hz hh h0
        by_cases hs : 300 < l.size
        · have hs' : (300 : Int) < l.size := by omega
          rw [if_pos hs]
          go_enter Tryz.func82, Tryz.ntmps82
          go_wp2_with (go_at_call 117; (with_reducible refine (CI.out _).mono ?_); rintro e w2 ⟨rfl, rfl⟩)
          go_ret
          exact ⟨rfl, mb_new _ _⟩
        · have hs' : ¬ (300 : Int) < l.size := by omega
          rw [if_neg hs]
          by_cases h0 : n = 0
          · subst h0
            rw [if_pos rfl]
            go_enter Tryz.func82, Tryz.ntmps82
            go_wp2_with (go_at_call 117; (with_reducible refine (CI.out _).mono ?_); rintro e w2 ⟨rfl, rfl⟩)
            go_ret
            exact ⟨rfl, mb_new _ _⟩
          · rw [if_neg h0]
            have h0' : (0 : Int) < n := by omega
            go_enter Tryz.func82, Tryz.ntmps82
            go_wp2_with (go_at_call 117; (with_reducible refine (CI.out _).mono ?_); rintro e w2 ⟨rfl, rfl⟩)
            go_ret
            exact ⟨rfl, mb_new _ _⟩
  · clear h1 h4
    rw [if_neg (by decide), if_neg (by decide), if_neg (by decide)]
    by_cases h0 : n = 0
    · subst h0
      by_cases h2 : l.size = 0
      · rw [if_pos ⟨h2, rfl⟩]
        rw [decide_eq_true h2] at emp
        go_enter Tryz.func82, Tryz.ntmps82
        go_wp2
        go_ret
        exact ⟨rfl, mb_new _ _⟩
      · rw [if_neg (fun h => h2 h.1)]
        rw [decide_eq_false h2] at emp
        go_enter Tryz.func82, Tryz.ntmps82
        go_wp2
        go_ret
        exact ⟨rfl, mb_new _ _⟩
    · rw [if_neg (fun h => h0 h.2)]
      have h0' : (0 : Int) < n := by omega
      go_enter Tryz.func82, Tryz.ntmps82
      go_wp2
      go_ret
      exact ⟨rfl, mb_new _ _⟩
theorem mmay_any (p l : ByteArray) (k m u g t : Int) (A : Option Addr) (n c : Nat) (w : World) (hp : p.size ≤ 1000000) (hl : l.size ≤ 1000000) (hn : n ≤ 1000000) :
    Calls Tryz.prog 53 #[.agg #[.string p, .int .i64 k, .int .i64 m, .int .i64 u, .int .i64 g, .int .i64 t, .string l, .slice A n c]] w fun e w' => e = .returned (.int .i64 (Mb.may p l k m u g t n)) ∧ Below w.heap.size w w' := by
  have cp := fun W => may_any p W hp
  rw [show ((Pp.partsS p).2 == 0) = Mb.path p from rfl] at cp
  have ct := fun W => mtype_any k W
  have cm := fun W => mmeta_any m u g t W
  have CK := Lib.hid (fun (a : 1 ≤ k) (b : k ≤ 4) W => mkindof_any p l k m u g t A n c W hl hn a b)
  have CT := Lib.hid ct
  unfold Mb.may
  cases hpp : Mb.path p with
  | false =>
    rw [hpp] at cp
    rw [if_neg (by decide)]
    have CP := Lib.hid cp
    clear cp cm ct hpp
    go_enter Tryz.func53, Tryz.ntmps53
    go_wp2_with (go_at_call 79; (with_reducible refine (CP.out _).mono ?_); rintro e w1 ⟨rfl, hb1⟩)
    go_ret
    exact ⟨rfl, mb_below hb1⟩
  | true =>
    rw [hpp] at cp
    rw [if_pos rfl]
    have CP := Lib.hid cp
    clear cp ct hpp
    by_cases hk : 1 ≤ k ∧ k ≤ 4
    · rw [if_pos hk]
      have hty : (Mb.typ k == 0) = false := by
        have : k = 1 ∨ k = 2 ∨ k = 3 ∨ k = 4 := by omega
        rcases this with rfl | rfl | rfl | rfl <;> decide
      have CK2 := Lib.hid (CK.out hk.1 hk.2)
      generalize Mb.typ k = ty at *
      generalize Mb.kindE k l n = ke at *
      clear CK hk
      cases hm : Mb.numOk m u g t with
      | false =>
        rw [hm] at cm
        rw [if_neg (by decide)]
        have CM := Lib.hid cm
        clear cm hm
        go_enter Tryz.func53, Tryz.ntmps53
        go_wp2_with (first
          | (go_at_call 79; (with_reducible refine (CP.out _).mono ?_); rintro e w1 ⟨rfl, hb1⟩; have q0 : w1.cell? ⟨w.heap.size, 0, none⟩ = some (.string p) := (mbBox hb1).cell rfl; have q1 : w1.cell? ⟨w.heap.size, 1, none⟩ = some (.int .i64 k) := (mbBox hb1).cell rfl; have q2 : w1.cell? ⟨w.heap.size, 2, none⟩ = some (.int .i64 m) := (mbBox hb1).cell rfl; have q3 : w1.cell? ⟨w.heap.size, 3, none⟩ = some (.int .i64 u) := (mbBox hb1).cell rfl; have q4 : w1.cell? ⟨w.heap.size, 4, none⟩ = some (.int .i64 g) := (mbBox hb1).cell rfl; have q5 : w1.cell? ⟨w.heap.size, 5, none⟩ = some (.int .i64 t) := (mbBox hb1).cell rfl; have q6 : w1.cell? ⟨w.heap.size, 6, none⟩ = some (.string l) := (mbBox hb1).cell rfl; have q7 : w1.cell? ⟨w.heap.size, 7, none⟩ = some (.slice A n c) := (mbBox hb1).cell rfl; have HB1 := Lib.hid hb1; have HB := Lib.hid (mb_below hb1); clear hb1)
          | (go_at_call 80; (with_reducible refine (CT.out _).mono ?_); rintro e w2 ⟨rfl, rfl⟩)
          | (go_at_call 81; (with_reducible refine (CM.out _).mono ?_); rintro e w3 ⟨rfl, hb3⟩))
        go_ret
        exact ⟨rfl, bthen HB.out hb3⟩
      | true =>
        rw [hm] at cm
        rw [if_pos rfl]
        have CM := Lib.hid cm
        clear cm hm
        go_enter Tryz.func53, Tryz.ntmps53
        go_wp2_with (first
          | (go_at_call 79; (with_reducible refine (CP.out _).mono ?_); rintro e w1 ⟨rfl, hb1⟩; have q0 : w1.cell? ⟨w.heap.size, 0, none⟩ = some (.string p) := (mbBox hb1).cell rfl; have q1 : w1.cell? ⟨w.heap.size, 1, none⟩ = some (.int .i64 k) := (mbBox hb1).cell rfl; have q2 : w1.cell? ⟨w.heap.size, 2, none⟩ = some (.int .i64 m) := (mbBox hb1).cell rfl; have q3 : w1.cell? ⟨w.heap.size, 3, none⟩ = some (.int .i64 u) := (mbBox hb1).cell rfl; have q4 : w1.cell? ⟨w.heap.size, 4, none⟩ = some (.int .i64 g) := (mbBox hb1).cell rfl; have q5 : w1.cell? ⟨w.heap.size, 5, none⟩ = some (.int .i64 t) := (mbBox hb1).cell rfl; have q6 : w1.cell? ⟨w.heap.size, 6, none⟩ = some (.string l) := (mbBox hb1).cell rfl; have q7 : w1.cell? ⟨w.heap.size, 7, none⟩ = some (.slice A n c) := (mbBox hb1).cell rfl; have HB1 := Lib.hid hb1; have HB := Lib.hid (mb_below hb1); clear hb1)
          | (go_at_call 80; (with_reducible refine (CT.out _).mono ?_); rintro e w2 ⟨rfl, rfl⟩)
          | (go_at_call 81; (with_reducible refine (CM.out _).mono ?_); rintro e w3 ⟨rfl, hb3⟩; have r0 : w3.cell? ⟨w.heap.size, 0, none⟩ = some (.string p) := ((mbBox HB1.out).later hb3).cell rfl; have r1 : w3.cell? ⟨w.heap.size, 1, none⟩ = some (.int .i64 k) := ((mbBox HB1.out).later hb3).cell rfl; have r2 : w3.cell? ⟨w.heap.size, 2, none⟩ = some (.int .i64 m) := ((mbBox HB1.out).later hb3).cell rfl; have r3 : w3.cell? ⟨w.heap.size, 3, none⟩ = some (.int .i64 u) := ((mbBox HB1.out).later hb3).cell rfl; have r4 : w3.cell? ⟨w.heap.size, 4, none⟩ = some (.int .i64 g) := ((mbBox HB1.out).later hb3).cell rfl; have r5 : w3.cell? ⟨w.heap.size, 5, none⟩ = some (.int .i64 t) := ((mbBox HB1.out).later hb3).cell rfl; have r6 : w3.cell? ⟨w.heap.size, 6, none⟩ = some (.string l) := ((mbBox HB1.out).later hb3).cell rfl; have r7 : w3.cell? ⟨w.heap.size, 7, none⟩ = some (.slice A n c) := ((mbBox HB1.out).later hb3).cell rfl; have HB3 := Lib.hid (bthen HB.out hb3); clear hb3)
          | (go_at_call 82; (with_reducible refine (CK2.out _).mono ?_); rintro e w4 ⟨rfl, hb4⟩))
        go_ret
        exact ⟨rfl, bthen HB3.out hb4⟩
    · rw [if_neg hk]
      have hty : Mb.typ k = 0 := by unfold Mb.typ; rw [if_neg (by omega), if_neg (by omega), if_neg (by omega), if_neg (by omega)]
      rw [hty] at CT
      clear hk hty cm CK
      go_enter Tryz.func53, Tryz.ntmps53
      go_wp2_with (first
        | (go_at_call 79; (with_reducible refine (CP.out _).mono ?_); rintro e w1 ⟨rfl, hb1⟩; have q0 : w1.cell? ⟨w.heap.size, 0, none⟩ = some (.string p) := (mbBox hb1).cell rfl; have q1 : w1.cell? ⟨w.heap.size, 1, none⟩ = some (.int .i64 k) := (mbBox hb1).cell rfl; have q2 : w1.cell? ⟨w.heap.size, 2, none⟩ = some (.int .i64 m) := (mbBox hb1).cell rfl; have q3 : w1.cell? ⟨w.heap.size, 3, none⟩ = some (.int .i64 u) := (mbBox hb1).cell rfl; have q4 : w1.cell? ⟨w.heap.size, 4, none⟩ = some (.int .i64 g) := (mbBox hb1).cell rfl; have q5 : w1.cell? ⟨w.heap.size, 5, none⟩ = some (.int .i64 t) := (mbBox hb1).cell rfl; have q6 : w1.cell? ⟨w.heap.size, 6, none⟩ = some (.string l) := (mbBox hb1).cell rfl; have q7 : w1.cell? ⟨w.heap.size, 7, none⟩ = some (.slice A n c) := (mbBox hb1).cell rfl; have HB := Lib.hid (mb_below hb1); clear hb1)
        | (go_at_call 80; (with_reducible refine (CT.out _).mono ?_); rintro e w2 ⟨rfl, rfl⟩))
      go_ret
      exact ⟨rfl, HB.out⟩
theorem refmmay_any (p l : ByteArray) (k m u g t : Int) (A : Option Addr) (n c : Nat) (w : World) (hp : p.size ≤ 1000000) (hl : l.size ≤ 1000000) (hn : n ≤ 1000000) :
    Calls Tryz.prog 42 #[.agg #[.string p, .int .i64 k, .int .i64 m, .int .i64 u, .int .i64 g, .int .i64 t, .string l, .slice A n c]] w fun e w' => e = .returned (.int .i64 (Mb.may p l k m u g t n)) ∧ Below w.heap.size w w' := by
  have cp := fun W => refparts_any p W hp
  have cm := fun W => refmmeta_any m u g t W
  have cl := fun W => refmlink_any p l k m u g t A n c W hl
  have CL := Lib.hid cl
  clear cl
  unfold Mb.may
  rw [show Mb.path p = ((Pp.partsS p).2 == 0) from rfl]
  obtain ⟨⟨L, cc⟩, hP⟩ : ∃ P, Pp.partsS p = P := ⟨_, rfl⟩
  rw [hP] at cp ⊢
  have CP := Lib.hid cp
  clear cp hP
  by_cases hc : cc = 0
  · subst hc
    rw [if_pos (show ((L, (0 : Int)).2 == 0) = true from rfl)]
    by_cases hk : 1 ≤ k ∧ k ≤ 4
    · rw [if_pos hk]
      have k1 : ¬ k < 1 := by omega
      have k4 : ¬ 4 < k := by omega
      cases hm : Mb.numOk m u g t with
      | false =>
        rw [hm] at cm
        rw [if_neg (by decide)]
        have CM := Lib.hid cm
        clear cm hm hk
        go_enter Tryz.func42, Tryz.ntmps42
        go_wp2_with (first
          | (go_at_call 64; (with_reducible refine (CP.out _).mono ?_); rintro e w1 ⟨v, rfl, _, hb1⟩; have q0 : w1.cell? ⟨w.heap.size, 0, none⟩ = some (.string p) := (mbBox hb1).cell rfl; have q1 : w1.cell? ⟨w.heap.size, 1, none⟩ = some (.int .i64 k) := (mbBox hb1).cell rfl; have q2 : w1.cell? ⟨w.heap.size, 2, none⟩ = some (.int .i64 m) := (mbBox hb1).cell rfl; have q3 : w1.cell? ⟨w.heap.size, 3, none⟩ = some (.int .i64 u) := (mbBox hb1).cell rfl; have q4 : w1.cell? ⟨w.heap.size, 4, none⟩ = some (.int .i64 g) := (mbBox hb1).cell rfl; have q5 : w1.cell? ⟨w.heap.size, 5, none⟩ = some (.int .i64 t) := (mbBox hb1).cell rfl; have q6 : w1.cell? ⟨w.heap.size, 6, none⟩ = some (.string l) := (mbBox hb1).cell rfl; have q7 : w1.cell? ⟨w.heap.size, 7, none⟩ = some (.slice A n c) := (mbBox hb1).cell rfl; have HB := Lib.hid (mb_below hb1); clear hb1)
          | (go_at_call 65; (with_reducible refine (CM.out _).mono ?_); rintro e w3 ⟨rfl, hb3⟩))
        go_ret
        exact ⟨rfl, bthen HB.out hb3⟩
      | true =>
        rw [hm] at cm
        rw [if_pos rfl]
        have CM := Lib.hid cm
        clear cm hm hk
        by_cases hb : k = 1 ∧ 4096 < n
        · obtain ⟨rfl, hb2⟩ := hb
          have hb' : (4096 : Int) < n := by omega
          have e : Mb.kindE 1 l n = 10 := by unfold Mb.kindE; rw [if_pos rfl, if_pos hb2]
          rw [e]
          clear e hb2
          go_enter Tryz.func42, Tryz.ntmps42
          go_wp2_with (first
            | (go_at_call 64; (with_reducible refine (CP.out _).mono ?_); rintro e w1 ⟨v, rfl, _, hb1⟩; have HB1 := Lib.hid hb1; have q0 : w1.cell? ⟨w.heap.size, 1, none⟩ = some (.int .i64 1) := (mb_box hb1).cell rfl; have q1 : w1.cell? ⟨w.heap.size, 2, none⟩ = some (.int .i64 m) := (mb_box hb1).cell rfl; have q2 : w1.cell? ⟨w.heap.size, 3, none⟩ = some (.int .i64 u) := (mb_box hb1).cell rfl; have q3 : w1.cell? ⟨w.heap.size, 4, none⟩ = some (.int .i64 g) := (mb_box hb1).cell rfl; have q4 : w1.cell? ⟨w.heap.size, 5, none⟩ = some (.int .i64 t) := (mb_box hb1).cell rfl; have HB := Lib.hid (mb_below hb1); clear hb1)
            | (go_at_call 65; (with_reducible refine (CM.out _).mono ?_); rintro e w3 ⟨rfl, hb3⟩; have r1 : w3.cell? ⟨w.heap.size, 1, none⟩ = some (.int .i64 1) := ((mb_box HB1.out).later hb3).cell rfl; have r7 : w3.cell? ⟨w.heap.size, 7, none⟩ = some (.slice A n c) := ((mb_box HB1.out).later hb3).cell rfl; have HB3 := Lib.hid (bthen HB.out hb3); clear hb3))
          go_ret
          exact ⟨rfl, HB3.out⟩
        · rw [Mb.kind_link l n hb]
          generalize Mb.linkE k l = le at *
          by_cases a : k = 1
          · subst a
            have h4 : ¬ (4096 : Int) < n := fun h => hb ⟨rfl, by omega⟩
            clear hb
            by_cases hle : le = 0
            · subst hle
              rw [if_pos rfl]
              rw [if_neg (fun h => h.1 rfl)]
              go_enter Tryz.func42, Tryz.ntmps42
              go_wp2_with (first
            | (go_at_call 64; (with_reducible refine (CP.out _).mono ?_); rintro e w1 ⟨v, rfl, _, hb1⟩; have HB1 := Lib.hid hb1; have q0 : w1.cell? ⟨w.heap.size, 1, none⟩ = some (.int .i64 1) := (mb_box hb1).cell rfl; have q1 : w1.cell? ⟨w.heap.size, 2, none⟩ = some (.int .i64 m) := (mb_box hb1).cell rfl; have q2 : w1.cell? ⟨w.heap.size, 3, none⟩ = some (.int .i64 u) := (mb_box hb1).cell rfl; have q3 : w1.cell? ⟨w.heap.size, 4, none⟩ = some (.int .i64 g) := (mb_box hb1).cell rfl; have q4 : w1.cell? ⟨w.heap.size, 5, none⟩ = some (.int .i64 t) := (mb_box hb1).cell rfl; have HB := Lib.hid (mb_below hb1); clear hb1)
            | (go_at_call 65; (with_reducible refine (CM.out _).mono ?_); rintro e w3 ⟨rfl, hb3⟩; have B3 := Lib.hid ((mb_box HB1.out).later hb3); have r0 : w3.cell? ⟨w.heap.size, 0, none⟩ = some (.string p) := B3.out.cell rfl; have r1 : w3.cell? ⟨w.heap.size, 1, none⟩ = some (.int .i64 1) := B3.out.cell rfl; have r2 : w3.cell? ⟨w.heap.size, 2, none⟩ = some (.int .i64 m) := B3.out.cell rfl; have r3 : w3.cell? ⟨w.heap.size, 3, none⟩ = some (.int .i64 u) := B3.out.cell rfl; have r4 : w3.cell? ⟨w.heap.size, 4, none⟩ = some (.int .i64 g) := B3.out.cell rfl; have r5 : w3.cell? ⟨w.heap.size, 5, none⟩ = some (.int .i64 t) := B3.out.cell rfl; have r6 : w3.cell? ⟨w.heap.size, 6, none⟩ = some (.string l) := B3.out.cell rfl; have r7 : w3.cell? ⟨w.heap.size, 7, none⟩ = some (.slice A n c) := B3.out.cell rfl; have HB3 := Lib.hid (bthen HB.out hb3); clear hb3)
            | (go_at_call 66; (with_reducible refine (CL.out _).mono ?_); rintro e w4 ⟨rfl, hb4⟩; have s1 : w4.cell? ⟨w.heap.size, 1, none⟩ = some (.int .i64 1) := (B3.out.later hb4).cell rfl; have s7 : w4.cell? ⟨w.heap.size, 7, none⟩ = some (.slice A n c) := (B3.out.later hb4).cell rfl; have HB4 := Lib.hid (bthen HB3.out hb4); clear hb4))
              go_ret
              exact ⟨rfl, HB4.out⟩
            · rw [if_neg hle]
              have gl : (le == 0) = false := by simp [hle]
              have gl2 : (le != 0) = true := by simp [hle]
              clear hle
              go_enter Tryz.func42, Tryz.ntmps42
              go_wp2_with (first
            | (go_at_call 64; (with_reducible refine (CP.out _).mono ?_); rintro e w1 ⟨v, rfl, _, hb1⟩; have HB1 := Lib.hid hb1; have q0 : w1.cell? ⟨w.heap.size, 1, none⟩ = some (.int .i64 1) := (mb_box hb1).cell rfl; have q1 : w1.cell? ⟨w.heap.size, 2, none⟩ = some (.int .i64 m) := (mb_box hb1).cell rfl; have q2 : w1.cell? ⟨w.heap.size, 3, none⟩ = some (.int .i64 u) := (mb_box hb1).cell rfl; have q3 : w1.cell? ⟨w.heap.size, 4, none⟩ = some (.int .i64 g) := (mb_box hb1).cell rfl; have q4 : w1.cell? ⟨w.heap.size, 5, none⟩ = some (.int .i64 t) := (mb_box hb1).cell rfl; have HB := Lib.hid (mb_below hb1); clear hb1)
            | (go_at_call 65; (with_reducible refine (CM.out _).mono ?_); rintro e w3 ⟨rfl, hb3⟩; have B3 := Lib.hid ((mb_box HB1.out).later hb3); have r0 : w3.cell? ⟨w.heap.size, 0, none⟩ = some (.string p) := B3.out.cell rfl; have r1 : w3.cell? ⟨w.heap.size, 1, none⟩ = some (.int .i64 1) := B3.out.cell rfl; have r2 : w3.cell? ⟨w.heap.size, 2, none⟩ = some (.int .i64 m) := B3.out.cell rfl; have r3 : w3.cell? ⟨w.heap.size, 3, none⟩ = some (.int .i64 u) := B3.out.cell rfl; have r4 : w3.cell? ⟨w.heap.size, 4, none⟩ = some (.int .i64 g) := B3.out.cell rfl; have r5 : w3.cell? ⟨w.heap.size, 5, none⟩ = some (.int .i64 t) := B3.out.cell rfl; have r6 : w3.cell? ⟨w.heap.size, 6, none⟩ = some (.string l) := B3.out.cell rfl; have r7 : w3.cell? ⟨w.heap.size, 7, none⟩ = some (.slice A n c) := B3.out.cell rfl; have HB3 := Lib.hid (bthen HB.out hb3); clear hb3)
            | (go_at_call 66; (with_reducible refine (CL.out _).mono ?_); rintro e w4 ⟨rfl, hb4⟩; have s1 : w4.cell? ⟨w.heap.size, 1, none⟩ = some (.int .i64 1) := (B3.out.later hb4).cell rfl; have s7 : w4.cell? ⟨w.heap.size, 7, none⟩ = some (.slice A n c) := (B3.out.later hb4).cell rfl; have HB4 := Lib.hid (bthen HB3.out hb4); clear hb4))
              go_ret
              exact ⟨rfl, HB4.out⟩
          · have ge : (k == 1) = false := by simp [a]
            have ge2 : (k != 1) = true := by simp [a]
            clear hb
            by_cases h0 : n = 0
            · subst h0
              by_cases hle : le = 0
              · subst hle
                rw [if_pos rfl]
                rw [if_neg (fun h => absurd h.2 (by omega))]
                clear a
                go_enter Tryz.func42, Tryz.ntmps42
                go_wp2_with (first
            | (go_at_call 64; (with_reducible refine (CP.out _).mono ?_); rintro e w1 ⟨v, rfl, _, hb1⟩; have HB1 := Lib.hid hb1; have q0 : w1.cell? ⟨w.heap.size, 1, none⟩ = some (.int .i64 k) := (mb_box hb1).cell rfl; have q1 : w1.cell? ⟨w.heap.size, 2, none⟩ = some (.int .i64 m) := (mb_box hb1).cell rfl; have q2 : w1.cell? ⟨w.heap.size, 3, none⟩ = some (.int .i64 u) := (mb_box hb1).cell rfl; have q3 : w1.cell? ⟨w.heap.size, 4, none⟩ = some (.int .i64 g) := (mb_box hb1).cell rfl; have q4 : w1.cell? ⟨w.heap.size, 5, none⟩ = some (.int .i64 t) := (mb_box hb1).cell rfl; have HB := Lib.hid (mb_below hb1); clear hb1)
            | (go_at_call 65; (with_reducible refine (CM.out _).mono ?_); rintro e w3 ⟨rfl, hb3⟩; have B3 := Lib.hid ((mb_box HB1.out).later hb3); have r0 : w3.cell? ⟨w.heap.size, 0, none⟩ = some (.string p) := B3.out.cell rfl; have r1 : w3.cell? ⟨w.heap.size, 1, none⟩ = some (.int .i64 k) := B3.out.cell rfl; have r2 : w3.cell? ⟨w.heap.size, 2, none⟩ = some (.int .i64 m) := B3.out.cell rfl; have r3 : w3.cell? ⟨w.heap.size, 3, none⟩ = some (.int .i64 u) := B3.out.cell rfl; have r4 : w3.cell? ⟨w.heap.size, 4, none⟩ = some (.int .i64 g) := B3.out.cell rfl; have r5 : w3.cell? ⟨w.heap.size, 5, none⟩ = some (.int .i64 t) := B3.out.cell rfl; have r6 : w3.cell? ⟨w.heap.size, 6, none⟩ = some (.string l) := B3.out.cell rfl; have r7 : w3.cell? ⟨w.heap.size, 7, none⟩ = some (.slice A 0 c) := B3.out.cell rfl; have HB3 := Lib.hid (bthen HB.out hb3); clear hb3)
            | (go_at_call 66; (with_reducible refine (CL.out _).mono ?_); rintro e w4 ⟨rfl, hb4⟩; have s1 : w4.cell? ⟨w.heap.size, 1, none⟩ = some (.int .i64 k) := (B3.out.later hb4).cell rfl; have s7 : w4.cell? ⟨w.heap.size, 7, none⟩ = some (.slice A 0 c) := (B3.out.later hb4).cell rfl; have HB4 := Lib.hid (bthen HB3.out hb4); clear hb4))
                go_ret
                exact ⟨rfl, HB4.out⟩
              · rw [if_neg hle]
                have gl : (le == 0) = false := by simp [hle]
                have gl2 : (le != 0) = true := by simp [hle]
                clear hle
                go_enter Tryz.func42, Tryz.ntmps42
                go_wp2_with (first
            | (go_at_call 64; (with_reducible refine (CP.out _).mono ?_); rintro e w1 ⟨v, rfl, _, hb1⟩; have HB1 := Lib.hid hb1; have q0 : w1.cell? ⟨w.heap.size, 1, none⟩ = some (.int .i64 k) := (mb_box hb1).cell rfl; have q1 : w1.cell? ⟨w.heap.size, 2, none⟩ = some (.int .i64 m) := (mb_box hb1).cell rfl; have q2 : w1.cell? ⟨w.heap.size, 3, none⟩ = some (.int .i64 u) := (mb_box hb1).cell rfl; have q3 : w1.cell? ⟨w.heap.size, 4, none⟩ = some (.int .i64 g) := (mb_box hb1).cell rfl; have q4 : w1.cell? ⟨w.heap.size, 5, none⟩ = some (.int .i64 t) := (mb_box hb1).cell rfl; have HB := Lib.hid (mb_below hb1); clear hb1)
            | (go_at_call 65; (with_reducible refine (CM.out _).mono ?_); rintro e w3 ⟨rfl, hb3⟩; have B3 := Lib.hid ((mb_box HB1.out).later hb3); have r0 : w3.cell? ⟨w.heap.size, 0, none⟩ = some (.string p) := B3.out.cell rfl; have r1 : w3.cell? ⟨w.heap.size, 1, none⟩ = some (.int .i64 k) := B3.out.cell rfl; have r2 : w3.cell? ⟨w.heap.size, 2, none⟩ = some (.int .i64 m) := B3.out.cell rfl; have r3 : w3.cell? ⟨w.heap.size, 3, none⟩ = some (.int .i64 u) := B3.out.cell rfl; have r4 : w3.cell? ⟨w.heap.size, 4, none⟩ = some (.int .i64 g) := B3.out.cell rfl; have r5 : w3.cell? ⟨w.heap.size, 5, none⟩ = some (.int .i64 t) := B3.out.cell rfl; have r6 : w3.cell? ⟨w.heap.size, 6, none⟩ = some (.string l) := B3.out.cell rfl; have r7 : w3.cell? ⟨w.heap.size, 7, none⟩ = some (.slice A 0 c) := B3.out.cell rfl; have HB3 := Lib.hid (bthen HB.out hb3); clear hb3)
            | (go_at_call 66; (with_reducible refine (CL.out _).mono ?_); rintro e w4 ⟨rfl, hb4⟩; have s1 : w4.cell? ⟨w.heap.size, 1, none⟩ = some (.int .i64 k) := (B3.out.later hb4).cell rfl; have s7 : w4.cell? ⟨w.heap.size, 7, none⟩ = some (.slice A 0 c) := (B3.out.later hb4).cell rfl; have HB4 := Lib.hid (bthen HB3.out hb4); clear hb4))
                go_ret
                exact ⟨rfl, HB4.out⟩
            · have h0' : (0 : Int) < n := by omega
              by_cases hle : le = 0
              · subst hle
                rw [if_pos rfl]
                rw [if_pos ⟨a, by omega⟩]
                clear a h0
                go_enter Tryz.func42, Tryz.ntmps42
                go_wp2_with (first
            | (go_at_call 64; (with_reducible refine (CP.out _).mono ?_); rintro e w1 ⟨v, rfl, _, hb1⟩; have HB1 := Lib.hid hb1; have q0 : w1.cell? ⟨w.heap.size, 1, none⟩ = some (.int .i64 k) := (mb_box hb1).cell rfl; have q1 : w1.cell? ⟨w.heap.size, 2, none⟩ = some (.int .i64 m) := (mb_box hb1).cell rfl; have q2 : w1.cell? ⟨w.heap.size, 3, none⟩ = some (.int .i64 u) := (mb_box hb1).cell rfl; have q3 : w1.cell? ⟨w.heap.size, 4, none⟩ = some (.int .i64 g) := (mb_box hb1).cell rfl; have q4 : w1.cell? ⟨w.heap.size, 5, none⟩ = some (.int .i64 t) := (mb_box hb1).cell rfl; have HB := Lib.hid (mb_below hb1); clear hb1)
            | (go_at_call 65; (with_reducible refine (CM.out _).mono ?_); rintro e w3 ⟨rfl, hb3⟩; have B3 := Lib.hid ((mb_box HB1.out).later hb3); have r0 : w3.cell? ⟨w.heap.size, 0, none⟩ = some (.string p) := B3.out.cell rfl; have r1 : w3.cell? ⟨w.heap.size, 1, none⟩ = some (.int .i64 k) := B3.out.cell rfl; have r2 : w3.cell? ⟨w.heap.size, 2, none⟩ = some (.int .i64 m) := B3.out.cell rfl; have r3 : w3.cell? ⟨w.heap.size, 3, none⟩ = some (.int .i64 u) := B3.out.cell rfl; have r4 : w3.cell? ⟨w.heap.size, 4, none⟩ = some (.int .i64 g) := B3.out.cell rfl; have r5 : w3.cell? ⟨w.heap.size, 5, none⟩ = some (.int .i64 t) := B3.out.cell rfl; have r6 : w3.cell? ⟨w.heap.size, 6, none⟩ = some (.string l) := B3.out.cell rfl; have r7 : w3.cell? ⟨w.heap.size, 7, none⟩ = some (.slice A n c) := B3.out.cell rfl; have HB3 := Lib.hid (bthen HB.out hb3); clear hb3)
            | (go_at_call 66; (with_reducible refine (CL.out _).mono ?_); rintro e w4 ⟨rfl, hb4⟩; have s1 : w4.cell? ⟨w.heap.size, 1, none⟩ = some (.int .i64 k) := (B3.out.later hb4).cell rfl; have s7 : w4.cell? ⟨w.heap.size, 7, none⟩ = some (.slice A n c) := (B3.out.later hb4).cell rfl; have HB4 := Lib.hid (bthen HB3.out hb4); clear hb4))
                go_ret
                exact ⟨rfl, HB4.out⟩
              · rw [if_neg hle]
                have gl : (le == 0) = false := by simp [hle]
                have gl2 : (le != 0) = true := by simp [hle]
                clear hle
                go_enter Tryz.func42, Tryz.ntmps42
                go_wp2_with (first
            | (go_at_call 64; (with_reducible refine (CP.out _).mono ?_); rintro e w1 ⟨v, rfl, _, hb1⟩; have HB1 := Lib.hid hb1; have q0 : w1.cell? ⟨w.heap.size, 1, none⟩ = some (.int .i64 k) := (mb_box hb1).cell rfl; have q1 : w1.cell? ⟨w.heap.size, 2, none⟩ = some (.int .i64 m) := (mb_box hb1).cell rfl; have q2 : w1.cell? ⟨w.heap.size, 3, none⟩ = some (.int .i64 u) := (mb_box hb1).cell rfl; have q3 : w1.cell? ⟨w.heap.size, 4, none⟩ = some (.int .i64 g) := (mb_box hb1).cell rfl; have q4 : w1.cell? ⟨w.heap.size, 5, none⟩ = some (.int .i64 t) := (mb_box hb1).cell rfl; have HB := Lib.hid (mb_below hb1); clear hb1)
            | (go_at_call 65; (with_reducible refine (CM.out _).mono ?_); rintro e w3 ⟨rfl, hb3⟩; have B3 := Lib.hid ((mb_box HB1.out).later hb3); have r0 : w3.cell? ⟨w.heap.size, 0, none⟩ = some (.string p) := B3.out.cell rfl; have r1 : w3.cell? ⟨w.heap.size, 1, none⟩ = some (.int .i64 k) := B3.out.cell rfl; have r2 : w3.cell? ⟨w.heap.size, 2, none⟩ = some (.int .i64 m) := B3.out.cell rfl; have r3 : w3.cell? ⟨w.heap.size, 3, none⟩ = some (.int .i64 u) := B3.out.cell rfl; have r4 : w3.cell? ⟨w.heap.size, 4, none⟩ = some (.int .i64 g) := B3.out.cell rfl; have r5 : w3.cell? ⟨w.heap.size, 5, none⟩ = some (.int .i64 t) := B3.out.cell rfl; have r6 : w3.cell? ⟨w.heap.size, 6, none⟩ = some (.string l) := B3.out.cell rfl; have r7 : w3.cell? ⟨w.heap.size, 7, none⟩ = some (.slice A n c) := B3.out.cell rfl; have HB3 := Lib.hid (bthen HB.out hb3); clear hb3)
            | (go_at_call 66; (with_reducible refine (CL.out _).mono ?_); rintro e w4 ⟨rfl, hb4⟩; have s1 : w4.cell? ⟨w.heap.size, 1, none⟩ = some (.int .i64 k) := (B3.out.later hb4).cell rfl; have s7 : w4.cell? ⟨w.heap.size, 7, none⟩ = some (.slice A n c) := (B3.out.later hb4).cell rfl; have HB4 := Lib.hid (bthen HB3.out hb4); clear hb4))
                go_ret
                exact ⟨rfl, HB4.out⟩
    · rw [if_neg hk]
      clear cm
      by_cases k1 : k < 1
      · clear hk
        go_enter Tryz.func42, Tryz.ntmps42
        go_wp2_with (go_at_call 64; (with_reducible refine (CP.out _).mono ?_); rintro e w1 ⟨v, rfl, _, hb1⟩; have q0 : w1.cell? ⟨w.heap.size, 0, none⟩ = some (.string p) := (mbBox hb1).cell rfl; have q1 : w1.cell? ⟨w.heap.size, 1, none⟩ = some (.int .i64 k) := (mbBox hb1).cell rfl; have q2 : w1.cell? ⟨w.heap.size, 2, none⟩ = some (.int .i64 m) := (mbBox hb1).cell rfl; have q3 : w1.cell? ⟨w.heap.size, 3, none⟩ = some (.int .i64 u) := (mbBox hb1).cell rfl; have q4 : w1.cell? ⟨w.heap.size, 4, none⟩ = some (.int .i64 g) := (mbBox hb1).cell rfl; have q5 : w1.cell? ⟨w.heap.size, 5, none⟩ = some (.int .i64 t) := (mbBox hb1).cell rfl; have q6 : w1.cell? ⟨w.heap.size, 6, none⟩ = some (.string l) := (mbBox hb1).cell rfl; have q7 : w1.cell? ⟨w.heap.size, 7, none⟩ = some (.slice A n c) := (mbBox hb1).cell rfl; have HB := Lib.hid (mb_below hb1); clear hb1)
        go_ret
        exact ⟨rfl, HB.out⟩
      · have k4 : 4 < k := by omega
        clear hk
        go_enter Tryz.func42, Tryz.ntmps42
        go_wp2_with (go_at_call 64; (with_reducible refine (CP.out _).mono ?_); rintro e w1 ⟨v, rfl, _, hb1⟩; have q0 : w1.cell? ⟨w.heap.size, 0, none⟩ = some (.string p) := (mbBox hb1).cell rfl; have q1 : w1.cell? ⟨w.heap.size, 1, none⟩ = some (.int .i64 k) := (mbBox hb1).cell rfl; have q2 : w1.cell? ⟨w.heap.size, 2, none⟩ = some (.int .i64 m) := (mbBox hb1).cell rfl; have q3 : w1.cell? ⟨w.heap.size, 3, none⟩ = some (.int .i64 u) := (mbBox hb1).cell rfl; have q4 : w1.cell? ⟨w.heap.size, 4, none⟩ = some (.int .i64 g) := (mbBox hb1).cell rfl; have q5 : w1.cell? ⟨w.heap.size, 5, none⟩ = some (.int .i64 t) := (mbBox hb1).cell rfl; have q6 : w1.cell? ⟨w.heap.size, 6, none⟩ = some (.string l) := (mbBox hb1).cell rfl; have q7 : w1.cell? ⟨w.heap.size, 7, none⟩ = some (.slice A n c) := (mbBox hb1).cell rfl; have HB := Lib.hid (mb_below hb1); clear hb1)
        go_ret
        exact ⟨rfl, HB.out⟩
  · have g : (cc == 0) = false := by simp [hc]
    have g2 : (cc != 0) = true := by simp [hc]
    rw [if_neg (by simp [hc])]
    clear hc cm
    go_enter Tryz.func42, Tryz.ntmps42
    go_wp2_with (go_at_call 64; (with_reducible refine (CP.out _).mono ?_); rintro e w1 ⟨v, rfl, _, hb1⟩)
    go_ret
    exact ⟨rfl, mb_below hb1⟩
end Go.Proofs.YtjofdgjcbjdhbaaGreatDoor
/- WALKS OF LAYER 8, FIFTH PART: the records that a member needs, the code's and the reference's. By gen_e8e.py. -/
namespace Go.Proofs.YtjofdgjcbjdhbaaGreatDoor
open Go Go.RowKit
set_option maxHeartbeats 1600000
set_option maxRecDepth 100000
set_option linter.unusedVariables false
theorem owns_base {w : World} {B B' size n : Nat} {e : TypeId} {v : Value} {xs : List Value} (h : w.ownsRow B e size v n xs) (hB : B' ≤ B) : w.ownsRow B' e size v n xs := by
  refine ⟨h.1, ?_⟩
  rcases h.2 with hl | ⟨g, cap, cur, rfl, hbg, hg, h1, h2, h3, h4⟩
  · exact .inl hl
  · exact .inr ⟨g, cap, cur, rfl, Nat.le_trans hB hbg, hg, h1, h2, h3, h4⟩
theorem info_rec6 : (Tryz.prog.info? 113).map (fun i => (i.zero, i.size, i.bytes)) = some (some (.agg #[.string ⟨#[]⟩, .string ⟨#[]⟩]), 2, 32) := by kernel_rfl
theorem partsB_fits (s : ByteArray) (k : Nat) : partsB s k = Mb.fits s k := rfl
theorem mrecs_any (p l : ByteArray) (k m u g t : Int) (A : Option Addr) (n c : Nat) (q : Nat) (w : World) (hp : p.size ≤ 1000000) (hq : Sf.IsCut p q) (hl : l.size ≤ 1000000) :
    Calls Tryz.prog 55 #[.agg #[.string p, .int .i64 k, .int .i64 m, .int .i64 u, .int .i64 g, .int .i64 t, .string l, .slice A n c]] w fun e w' => ∃ v, e = .returned v ∧ RO w' w.heap.size 128 v (Mb.recsL p l q) ∧ Below w.heap.size w w' := by
  obtain ⟨i0, hi, hz0, hz1, hz2⟩ := info_parts info_rec
  have cf := fun W => fits_any p q W hp hq
  rw [partsB_fits] at cf
  unfold Mb.recsL
  cases hf : Mb.fits p q with
  | true =>
    rw [hf] at cf
    have CF := Lib.hid cf
    clear cf hf
    rw [if_pos rfl, List.nil_append]
    by_cases hs : 100 < l.size
    · have hs' : (100 : Int) < l.size := by omega
      rw [if_pos hs]
      clear hs
      go_enter Tryz.func55, Tryz.ntmps55
      go_wp2_with (first
        | (go_at_call 84; (with_reducible refine (CF.out _).mono ?_); rintro e w1 ⟨rfl, j1, rfl⟩; have q0 : ((w.alloc (.cells #[.string p, .int .i64 k, .int .i64 m, .int .i64 u, .int .i64 g, .int .i64 t, .string l, .slice A n c] 44)).drewN j1).cell? ⟨w.heap.size, 0, none⟩ = some (.string p) := (BX.drewN (BX.new w _ _) _).cell rfl; have q6 : ((w.alloc (.cells #[.string p, .int .i64 k, .int .i64 m, .int .i64 u, .int .i64 g, .int .i64 t, .string l, .slice A n c] 44)).drewN j1).cell? ⟨w.heap.size, 6, none⟩ = some (.string l) := (BX.drewN (BX.new w _ _) _).cell rfl; obtain ⟨W1, hW1⟩ : ∃ W1, W1 = (w.alloc (.cells #[.string p, .int .i64 k, .int .i64 m, .int .i64 u, .int .i64 g, .int .i64 t, .string l, .slice A n c] 44)).drewN j1 := ⟨_, rfl⟩; rw [← hW1] at q0 q6 ⊢; have HW1 := Lib.hid (show Below (w.heap.size + 1) (w.alloc (.cells #[.string p, .int .i64 k, .int .i64 m, .int .i64 u, .int .i64 g, .int .i64 t, .string l, .slice A n c] 44)) W1 by rw [hW1]; exact below_drewN (Below.refl _ _) _); have OWN1 := Lib.hid (show W1.ownsRow (w.heap.size + 1) 128 2 (.slice none 0 0) 0 [] from World.ownsRow_nil _ _ _ _); have NEW1 := Lib.hid (fun (k v : ByteArray) => news2 W1 128 k v); have SZ1 := Lib.hid (show w.heap.size + 1 ≤ W1.heap.size by rw [hW1]; simp); clear hW1)
        | (at_builtin; refine wpList_append_own _ rfl _ _ 67 rfl (w.heap.size + 1) 128 i0 (.agg #[.string ⟨#[]⟩, .string ⟨#[]⟩]) 2 32 Tryz.underlying67 hi hz0 hz1 hz2 rfl (by decide) _ 0 [] rfl (owns_below OWN1.out ((Below.refl _ _).alloc (Nat.le_refl _) _)) ⟨W1.heap.size, 0, none⟩ 1 1 [.string Mb.kLink, .string l] rfl rfl (NEW1.out _ _) (two_cells _ _) (by unfold maxLen; omega) (by omega) (by have := SZ1.out; simp; omega) ?_; intro v3 W3 hown3 hgrow3 hnil3; have OWN3 := Lib.hid (show W3.ownsRow (w.heap.size + 1) 128 2 v3 (0 + 1) ([] ++ [.string Mb.kLink, .string l]) from hown3); have HW3 := Lib.hid (below_app6 (HW1.out.alloc SZ1.out _) (by simp) (owns_below OWN1.out ((Below.refl _ _).alloc (Nat.le_refl _) _)) hgrow3); clear hown3 hgrow3 hnil3))
      go_ret
      exact ⟨_, rfl, owns_base OWN3.out (by omega), (mb_new _ _).trans (HW3.out.mono (by omega))⟩
    · have hs' : ¬ (100 : Int) < l.size := by omega
      rw [if_neg hs]
      clear hs
      go_enter Tryz.func55, Tryz.ntmps55
      go_wp2_with (first
        | (go_at_call 84; (with_reducible refine (CF.out _).mono ?_); rintro e w1 ⟨rfl, j1, rfl⟩; have q0 : ((w.alloc (.cells #[.string p, .int .i64 k, .int .i64 m, .int .i64 u, .int .i64 g, .int .i64 t, .string l, .slice A n c] 44)).drewN j1).cell? ⟨w.heap.size, 0, none⟩ = some (.string p) := (BX.drewN (BX.new w _ _) _).cell rfl; have q6 : ((w.alloc (.cells #[.string p, .int .i64 k, .int .i64 m, .int .i64 u, .int .i64 g, .int .i64 t, .string l, .slice A n c] 44)).drewN j1).cell? ⟨w.heap.size, 6, none⟩ = some (.string l) := (BX.drewN (BX.new w _ _) _).cell rfl; obtain ⟨W1, hW1⟩ : ∃ W1, W1 = (w.alloc (.cells #[.string p, .int .i64 k, .int .i64 m, .int .i64 u, .int .i64 g, .int .i64 t, .string l, .slice A n c] 44)).drewN j1 := ⟨_, rfl⟩; rw [← hW1] at q0 q6 ⊢; have HW1 := Lib.hid (show Below (w.heap.size + 1) (w.alloc (.cells #[.string p, .int .i64 k, .int .i64 m, .int .i64 u, .int .i64 g, .int .i64 t, .string l, .slice A n c] 44)) W1 by rw [hW1]; exact below_drewN (Below.refl _ _) _); have OWN1 := Lib.hid (show W1.ownsRow (w.heap.size + 1) 128 2 (.slice none 0 0) 0 [] from World.ownsRow_nil _ _ _ _); have NEW1 := Lib.hid (fun (k v : ByteArray) => news2 W1 128 k v); have SZ1 := Lib.hid (show w.heap.size + 1 ≤ W1.heap.size by rw [hW1]; simp); clear hW1))
      go_ret
      exact ⟨_, rfl, owns_base OWN1.out (by omega), (mb_new _ _).trans (HW1.out.mono (by omega))⟩
  | false =>
    rw [hf] at cf
    have CF := Lib.hid cf
    clear cf hf
    rw [if_neg (by decide)]
    by_cases hs : 100 < l.size
    · have hs' : (100 : Int) < l.size := by omega
      rw [if_pos hs]
      clear hs
      go_enter Tryz.func55, Tryz.ntmps55
      go_wp2_with (first
        | (go_at_call 84; (with_reducible refine (CF.out _).mono ?_); rintro e w1 ⟨rfl, j1, rfl⟩; have q0 : ((w.alloc (.cells #[.string p, .int .i64 k, .int .i64 m, .int .i64 u, .int .i64 g, .int .i64 t, .string l, .slice A n c] 44)).drewN j1).cell? ⟨w.heap.size, 0, none⟩ = some (.string p) := (BX.drewN (BX.new w _ _) _).cell rfl; have q6 : ((w.alloc (.cells #[.string p, .int .i64 k, .int .i64 m, .int .i64 u, .int .i64 g, .int .i64 t, .string l, .slice A n c] 44)).drewN j1).cell? ⟨w.heap.size, 6, none⟩ = some (.string l) := (BX.drewN (BX.new w _ _) _).cell rfl; obtain ⟨W1, hW1⟩ : ∃ W1, W1 = (w.alloc (.cells #[.string p, .int .i64 k, .int .i64 m, .int .i64 u, .int .i64 g, .int .i64 t, .string l, .slice A n c] 44)).drewN j1 := ⟨_, rfl⟩; rw [← hW1] at q0 q6 ⊢; have HW1 := Lib.hid (show Below (w.heap.size + 1) (w.alloc (.cells #[.string p, .int .i64 k, .int .i64 m, .int .i64 u, .int .i64 g, .int .i64 t, .string l, .slice A n c] 44)) W1 by rw [hW1]; exact below_drewN (Below.refl _ _) _); have OWN1 := Lib.hid (show W1.ownsRow (w.heap.size + 1) 128 2 (.slice none 0 0) 0 [] from World.ownsRow_nil _ _ _ _); have NEW1 := Lib.hid (fun (k v : ByteArray) => news2 W1 128 k v); have SZ1 := Lib.hid (show w.heap.size + 1 ≤ W1.heap.size by rw [hW1]; simp); clear hW1)
        | (at_builtin; refine wpList_append_own _ rfl _ _ 67 rfl (w.heap.size + 1) 128 i0 (.agg #[.string ⟨#[]⟩, .string ⟨#[]⟩]) 2 32 Tryz.underlying67 hi hz0 hz1 hz2 rfl (by decide) _ 0 [] rfl (owns_below OWN1.out ((Below.refl _ _).alloc (Nat.le_refl _) _)) ⟨W1.heap.size, 0, none⟩ 1 1 [.string Mb.kPath, .string p] rfl rfl (NEW1.out _ _) (two_cells _ _) (by unfold maxLen; omega) (by omega) (by have := SZ1.out; simp; omega) ?_; intro v2 W2 hown2 hgrow2 hnil2; have OWN2 := Lib.hid (show W2.ownsRow (w.heap.size + 1) 128 2 v2 1 [.string Mb.kPath, .string p] from hown2); have HW2 := Lib.hid (below_app6 (HW1.out.alloc SZ1.out _) (by simp) (owns_below OWN1.out ((Below.refl _ _).alloc (Nat.le_refl _) _)) hgrow2); have SZ2 := Lib.hid (show w.heap.size + 1 ≤ W2.heap.size by have := HW2.out.size; simpa using this); have NEW2 := Lib.hid (fun (k v : ByteArray) => news2 W2 128 k v); have q6' : W2.cell? ⟨w.heap.size, 6, none⟩ = some (.string l) := ((BX.new w 44 #[.string p, .int .i64 k, .int .i64 m, .int .i64 u, .int .i64 g, .int .i64 t, .string l, .slice A n c]).below HW2.out (by omega)).cell rfl; clear hown2 hgrow2 hnil2)
        | (at_builtin; refine wpList_append_own _ rfl _ _ 67 rfl (w.heap.size + 1) 128 i0 (.agg #[.string ⟨#[]⟩, .string ⟨#[]⟩]) 2 32 Tryz.underlying67 hi hz0 hz1 hz2 rfl (by decide) _ 1 [.string Mb.kPath, .string p] rfl (owns_below OWN2.out ((Below.refl _ _).alloc (Nat.le_refl _) _)) ⟨W2.heap.size, 0, none⟩ 1 1 [.string Mb.kLink, .string l] rfl rfl (NEW2.out _ _) (two_cells _ _) (by unfold maxLen; omega) (by omega) (by have := SZ2.out; simp; omega) ?_; intro v3 W3 hown3 hgrow3 hnil3; have OWN3 := Lib.hid (show W3.ownsRow (w.heap.size + 1) 128 2 v3 (1 + 1) ([.string Mb.kPath, .string p] ++ [.string Mb.kLink, .string l]) from hown3); have HW3 := Lib.hid (below_app6 (HW2.out.alloc SZ2.out _) (by simp) (owns_below OWN2.out ((Below.refl _ _).alloc (Nat.le_refl _) _)) hgrow3); clear hown3 hgrow3 hnil3))
      go_ret
      exact ⟨_, rfl, owns_base OWN3.out (by omega), (mb_new _ _).trans (HW3.out.mono (by omega))⟩
    · have hs' : ¬ (100 : Int) < l.size := by omega
      rw [if_neg hs]
      clear hs
      go_enter Tryz.func55, Tryz.ntmps55
      go_wp2_with (first
        | (go_at_call 84; (with_reducible refine (CF.out _).mono ?_); rintro e w1 ⟨rfl, j1, rfl⟩; have q0 : ((w.alloc (.cells #[.string p, .int .i64 k, .int .i64 m, .int .i64 u, .int .i64 g, .int .i64 t, .string l, .slice A n c] 44)).drewN j1).cell? ⟨w.heap.size, 0, none⟩ = some (.string p) := (BX.drewN (BX.new w _ _) _).cell rfl; have q6 : ((w.alloc (.cells #[.string p, .int .i64 k, .int .i64 m, .int .i64 u, .int .i64 g, .int .i64 t, .string l, .slice A n c] 44)).drewN j1).cell? ⟨w.heap.size, 6, none⟩ = some (.string l) := (BX.drewN (BX.new w _ _) _).cell rfl; obtain ⟨W1, hW1⟩ : ∃ W1, W1 = (w.alloc (.cells #[.string p, .int .i64 k, .int .i64 m, .int .i64 u, .int .i64 g, .int .i64 t, .string l, .slice A n c] 44)).drewN j1 := ⟨_, rfl⟩; rw [← hW1] at q0 q6 ⊢; have HW1 := Lib.hid (show Below (w.heap.size + 1) (w.alloc (.cells #[.string p, .int .i64 k, .int .i64 m, .int .i64 u, .int .i64 g, .int .i64 t, .string l, .slice A n c] 44)) W1 by rw [hW1]; exact below_drewN (Below.refl _ _) _); have OWN1 := Lib.hid (show W1.ownsRow (w.heap.size + 1) 128 2 (.slice none 0 0) 0 [] from World.ownsRow_nil _ _ _ _); have NEW1 := Lib.hid (fun (k v : ByteArray) => news2 W1 128 k v); have SZ1 := Lib.hid (show w.heap.size + 1 ≤ W1.heap.size by rw [hW1]; simp); clear hW1)
        | (at_builtin; refine wpList_append_own _ rfl _ _ 67 rfl (w.heap.size + 1) 128 i0 (.agg #[.string ⟨#[]⟩, .string ⟨#[]⟩]) 2 32 Tryz.underlying67 hi hz0 hz1 hz2 rfl (by decide) _ 0 [] rfl (owns_below OWN1.out ((Below.refl _ _).alloc (Nat.le_refl _) _)) ⟨W1.heap.size, 0, none⟩ 1 1 [.string Mb.kPath, .string p] rfl rfl (NEW1.out _ _) (two_cells _ _) (by unfold maxLen; omega) (by omega) (by have := SZ1.out; simp; omega) ?_; intro v2 W2 hown2 hgrow2 hnil2; have OWN2 := Lib.hid (show W2.ownsRow (w.heap.size + 1) 128 2 v2 1 [.string Mb.kPath, .string p] from hown2); have HW2 := Lib.hid (below_app6 (HW1.out.alloc SZ1.out _) (by simp) (owns_below OWN1.out ((Below.refl _ _).alloc (Nat.le_refl _) _)) hgrow2); have SZ2 := Lib.hid (show w.heap.size + 1 ≤ W2.heap.size by have := HW2.out.size; simpa using this); have NEW2 := Lib.hid (fun (k v : ByteArray) => news2 W2 128 k v); have q6' : W2.cell? ⟨w.heap.size, 6, none⟩ = some (.string l) := ((BX.new w 44 #[.string p, .int .i64 k, .int .i64 m, .int .i64 u, .int .i64 g, .int .i64 t, .string l, .slice A n c]).below HW2.out (by omega)).cell rfl; clear hown2 hgrow2 hnil2))
      go_ret
      exact ⟨_, rfl, owns_base OWN2.out (by omega), (mb_new _ _).trans (HW2.out.mono (by omega))⟩
theorem refmrecs_any (p l : ByteArray) (k m u g t : Int) (A : Option Addr) (n c : Nat) (q : Nat) (w : World) (hp : p.size ≤ 1000000) (hq : Sf.IsCut p q) (hl : l.size ≤ 1000000) :
    Calls Tryz.prog 43 #[.agg #[.string p, .int .i64 k, .int .i64 m, .int .i64 u, .int .i64 g, .int .i64 t, .string l, .slice A n c]] w fun e w' => ∃ v, e = .returned v ∧ RO w' w.heap.size 113 v (Mb.recsL p l q) ∧ Below w.heap.size w w' := by
  obtain ⟨i0, hi, hz0, hz1, hz2⟩ := info_parts info_rec6
  have cf := fun W => refsplit_any p q W hp hq
  obtain ⟨pp, pn, hv⟩ := parts_of p q
  rw [hv, partsB_fits] at cf
  clear hv
  unfold Mb.recsL
  cases hf : Mb.fits p q with
  | true =>
    rw [hf] at cf
    have CF := Lib.hid cf
    clear cf hf
    rw [if_pos rfl, List.nil_append]
    by_cases hs : 100 < l.size
    · have hs' : (100 : Int) < l.size := by omega
      rw [if_pos hs]
      clear hs
      go_enter Tryz.func43, Tryz.ntmps43
      go_wp2_with (first
        | (go_at_call 47; (with_reducible refine (CF.out _).mono ?_); rintro e w1 ⟨rfl, j1, rfl⟩; have q0 : ((w.alloc (.cells #[.string p, .int .i64 k, .int .i64 m, .int .i64 u, .int .i64 g, .int .i64 t, .string l, .slice A n c] 50)).drewN j1).cell? ⟨w.heap.size, 0, none⟩ = some (.string p) := (BX.drewN (BX.new w _ _) _).cell rfl; have q6 : ((w.alloc (.cells #[.string p, .int .i64 k, .int .i64 m, .int .i64 u, .int .i64 g, .int .i64 t, .string l, .slice A n c] 50)).drewN j1).cell? ⟨w.heap.size, 6, none⟩ = some (.string l) := (BX.drewN (BX.new w _ _) _).cell rfl; obtain ⟨W1, hW1⟩ : ∃ W1, W1 = (w.alloc (.cells #[.string p, .int .i64 k, .int .i64 m, .int .i64 u, .int .i64 g, .int .i64 t, .string l, .slice A n c] 50)).drewN j1 := ⟨_, rfl⟩; rw [← hW1] at q0 q6 ⊢; have HW1 := Lib.hid (show Below (w.heap.size + 1) (w.alloc (.cells #[.string p, .int .i64 k, .int .i64 m, .int .i64 u, .int .i64 g, .int .i64 t, .string l, .slice A n c] 50)) W1 by rw [hW1]; exact below_drewN (Below.refl _ _) _); have OWN1 := Lib.hid (show W1.ownsRow (w.heap.size + 1) 113 2 (.slice none 0 0) 0 [] from World.ownsRow_nil _ _ _ _); have NEW1 := Lib.hid (fun (k v : ByteArray) => news2 W1 113 k v); have SZ1 := Lib.hid (show w.heap.size + 1 ≤ W1.heap.size by rw [hW1]; simp); clear hW1)
        | (at_builtin; refine wpList_append_own _ rfl _ _ 86 rfl (w.heap.size + 1) 113 i0 (.agg #[.string ⟨#[]⟩, .string ⟨#[]⟩]) 2 32 Tryz.underlying86 hi hz0 hz1 hz2 rfl (by decide) _ 0 [] rfl (owns_below OWN1.out ((Below.refl _ _).alloc (Nat.le_refl _) _)) ⟨W1.heap.size, 0, none⟩ 1 1 [.string Mb.kLink, .string l] rfl rfl (NEW1.out _ _) (two_cells _ _) (by unfold maxLen; omega) (by omega) (by have := SZ1.out; simp; omega) ?_; intro v3 W3 hown3 hgrow3 hnil3; have OWN3 := Lib.hid (show W3.ownsRow (w.heap.size + 1) 113 2 v3 (0 + 1) ([] ++ [.string Mb.kLink, .string l]) from hown3); have HW3 := Lib.hid (below_app6 (HW1.out.alloc SZ1.out _) (by simp) (owns_below OWN1.out ((Below.refl _ _).alloc (Nat.le_refl _) _)) hgrow3); clear hown3 hgrow3 hnil3))
      go_ret
      exact ⟨_, rfl, owns_base OWN3.out (by omega), (mb_new _ _).trans (HW3.out.mono (by omega))⟩
    · have hs' : ¬ (100 : Int) < l.size := by omega
      rw [if_neg hs]
      clear hs
      go_enter Tryz.func43, Tryz.ntmps43
      go_wp2_with (first
        | (go_at_call 47; (with_reducible refine (CF.out _).mono ?_); rintro e w1 ⟨rfl, j1, rfl⟩; have q0 : ((w.alloc (.cells #[.string p, .int .i64 k, .int .i64 m, .int .i64 u, .int .i64 g, .int .i64 t, .string l, .slice A n c] 50)).drewN j1).cell? ⟨w.heap.size, 0, none⟩ = some (.string p) := (BX.drewN (BX.new w _ _) _).cell rfl; have q6 : ((w.alloc (.cells #[.string p, .int .i64 k, .int .i64 m, .int .i64 u, .int .i64 g, .int .i64 t, .string l, .slice A n c] 50)).drewN j1).cell? ⟨w.heap.size, 6, none⟩ = some (.string l) := (BX.drewN (BX.new w _ _) _).cell rfl; obtain ⟨W1, hW1⟩ : ∃ W1, W1 = (w.alloc (.cells #[.string p, .int .i64 k, .int .i64 m, .int .i64 u, .int .i64 g, .int .i64 t, .string l, .slice A n c] 50)).drewN j1 := ⟨_, rfl⟩; rw [← hW1] at q0 q6 ⊢; have HW1 := Lib.hid (show Below (w.heap.size + 1) (w.alloc (.cells #[.string p, .int .i64 k, .int .i64 m, .int .i64 u, .int .i64 g, .int .i64 t, .string l, .slice A n c] 50)) W1 by rw [hW1]; exact below_drewN (Below.refl _ _) _); have OWN1 := Lib.hid (show W1.ownsRow (w.heap.size + 1) 113 2 (.slice none 0 0) 0 [] from World.ownsRow_nil _ _ _ _); have NEW1 := Lib.hid (fun (k v : ByteArray) => news2 W1 113 k v); have SZ1 := Lib.hid (show w.heap.size + 1 ≤ W1.heap.size by rw [hW1]; simp); clear hW1))
      go_ret
      exact ⟨_, rfl, owns_base OWN1.out (by omega), (mb_new _ _).trans (HW1.out.mono (by omega))⟩
  | false =>
    rw [hf] at cf
    have CF := Lib.hid cf
    clear cf hf
    rw [if_neg (by decide)]
    by_cases hs : 100 < l.size
    · have hs' : (100 : Int) < l.size := by omega
      rw [if_pos hs]
      clear hs
      go_enter Tryz.func43, Tryz.ntmps43
      go_wp2_with (first
        | (go_at_call 47; (with_reducible refine (CF.out _).mono ?_); rintro e w1 ⟨rfl, j1, rfl⟩; have q0 : ((w.alloc (.cells #[.string p, .int .i64 k, .int .i64 m, .int .i64 u, .int .i64 g, .int .i64 t, .string l, .slice A n c] 50)).drewN j1).cell? ⟨w.heap.size, 0, none⟩ = some (.string p) := (BX.drewN (BX.new w _ _) _).cell rfl; have q6 : ((w.alloc (.cells #[.string p, .int .i64 k, .int .i64 m, .int .i64 u, .int .i64 g, .int .i64 t, .string l, .slice A n c] 50)).drewN j1).cell? ⟨w.heap.size, 6, none⟩ = some (.string l) := (BX.drewN (BX.new w _ _) _).cell rfl; obtain ⟨W1, hW1⟩ : ∃ W1, W1 = (w.alloc (.cells #[.string p, .int .i64 k, .int .i64 m, .int .i64 u, .int .i64 g, .int .i64 t, .string l, .slice A n c] 50)).drewN j1 := ⟨_, rfl⟩; rw [← hW1] at q0 q6 ⊢; have HW1 := Lib.hid (show Below (w.heap.size + 1) (w.alloc (.cells #[.string p, .int .i64 k, .int .i64 m, .int .i64 u, .int .i64 g, .int .i64 t, .string l, .slice A n c] 50)) W1 by rw [hW1]; exact below_drewN (Below.refl _ _) _); have OWN1 := Lib.hid (show W1.ownsRow (w.heap.size + 1) 113 2 (.slice none 0 0) 0 [] from World.ownsRow_nil _ _ _ _); have NEW1 := Lib.hid (fun (k v : ByteArray) => news2 W1 113 k v); have SZ1 := Lib.hid (show w.heap.size + 1 ≤ W1.heap.size by rw [hW1]; simp); clear hW1)
        | (at_builtin; refine wpList_append_own _ rfl _ _ 86 rfl (w.heap.size + 1) 113 i0 (.agg #[.string ⟨#[]⟩, .string ⟨#[]⟩]) 2 32 Tryz.underlying86 hi hz0 hz1 hz2 rfl (by decide) _ 0 [] rfl (owns_below OWN1.out ((Below.refl _ _).alloc (Nat.le_refl _) _)) ⟨W1.heap.size, 0, none⟩ 1 1 [.string Mb.kPath, .string p] rfl rfl (NEW1.out _ _) (two_cells _ _) (by unfold maxLen; omega) (by omega) (by have := SZ1.out; simp; omega) ?_; intro v2 W2 hown2 hgrow2 hnil2; have OWN2 := Lib.hid (show W2.ownsRow (w.heap.size + 1) 113 2 v2 1 [.string Mb.kPath, .string p] from hown2); have HW2 := Lib.hid (below_app6 (HW1.out.alloc SZ1.out _) (by simp) (owns_below OWN1.out ((Below.refl _ _).alloc (Nat.le_refl _) _)) hgrow2); have SZ2 := Lib.hid (show w.heap.size + 1 ≤ W2.heap.size by have := HW2.out.size; simpa using this); have NEW2 := Lib.hid (fun (k v : ByteArray) => news2 W2 113 k v); have q6' : W2.cell? ⟨w.heap.size, 6, none⟩ = some (.string l) := ((BX.new w 50 #[.string p, .int .i64 k, .int .i64 m, .int .i64 u, .int .i64 g, .int .i64 t, .string l, .slice A n c]).below HW2.out (by omega)).cell rfl; clear hown2 hgrow2 hnil2)
        | (at_builtin; refine wpList_append_own _ rfl _ _ 86 rfl (w.heap.size + 1) 113 i0 (.agg #[.string ⟨#[]⟩, .string ⟨#[]⟩]) 2 32 Tryz.underlying86 hi hz0 hz1 hz2 rfl (by decide) _ 1 [.string Mb.kPath, .string p] rfl (owns_below OWN2.out ((Below.refl _ _).alloc (Nat.le_refl _) _)) ⟨W2.heap.size, 0, none⟩ 1 1 [.string Mb.kLink, .string l] rfl rfl (NEW2.out _ _) (two_cells _ _) (by unfold maxLen; omega) (by omega) (by have := SZ2.out; simp; omega) ?_; intro v3 W3 hown3 hgrow3 hnil3; have OWN3 := Lib.hid (show W3.ownsRow (w.heap.size + 1) 113 2 v3 (1 + 1) ([.string Mb.kPath, .string p] ++ [.string Mb.kLink, .string l]) from hown3); have HW3 := Lib.hid (below_app6 (HW2.out.alloc SZ2.out _) (by simp) (owns_below OWN2.out ((Below.refl _ _).alloc (Nat.le_refl _) _)) hgrow3); clear hown3 hgrow3 hnil3))
      go_ret
      exact ⟨_, rfl, owns_base OWN3.out (by omega), (mb_new _ _).trans (HW3.out.mono (by omega))⟩
    · have hs' : ¬ (100 : Int) < l.size := by omega
      rw [if_neg hs]
      clear hs
      go_enter Tryz.func43, Tryz.ntmps43
      go_wp2_with (first
        | (go_at_call 47; (with_reducible refine (CF.out _).mono ?_); rintro e w1 ⟨rfl, j1, rfl⟩; have q0 : ((w.alloc (.cells #[.string p, .int .i64 k, .int .i64 m, .int .i64 u, .int .i64 g, .int .i64 t, .string l, .slice A n c] 50)).drewN j1).cell? ⟨w.heap.size, 0, none⟩ = some (.string p) := (BX.drewN (BX.new w _ _) _).cell rfl; have q6 : ((w.alloc (.cells #[.string p, .int .i64 k, .int .i64 m, .int .i64 u, .int .i64 g, .int .i64 t, .string l, .slice A n c] 50)).drewN j1).cell? ⟨w.heap.size, 6, none⟩ = some (.string l) := (BX.drewN (BX.new w _ _) _).cell rfl; obtain ⟨W1, hW1⟩ : ∃ W1, W1 = (w.alloc (.cells #[.string p, .int .i64 k, .int .i64 m, .int .i64 u, .int .i64 g, .int .i64 t, .string l, .slice A n c] 50)).drewN j1 := ⟨_, rfl⟩; rw [← hW1] at q0 q6 ⊢; have HW1 := Lib.hid (show Below (w.heap.size + 1) (w.alloc (.cells #[.string p, .int .i64 k, .int .i64 m, .int .i64 u, .int .i64 g, .int .i64 t, .string l, .slice A n c] 50)) W1 by rw [hW1]; exact below_drewN (Below.refl _ _) _); have OWN1 := Lib.hid (show W1.ownsRow (w.heap.size + 1) 113 2 (.slice none 0 0) 0 [] from World.ownsRow_nil _ _ _ _); have NEW1 := Lib.hid (fun (k v : ByteArray) => news2 W1 113 k v); have SZ1 := Lib.hid (show w.heap.size + 1 ≤ W1.heap.size by rw [hW1]; simp); clear hW1)
        | (at_builtin; refine wpList_append_own _ rfl _ _ 86 rfl (w.heap.size + 1) 113 i0 (.agg #[.string ⟨#[]⟩, .string ⟨#[]⟩]) 2 32 Tryz.underlying86 hi hz0 hz1 hz2 rfl (by decide) _ 0 [] rfl (owns_below OWN1.out ((Below.refl _ _).alloc (Nat.le_refl _) _)) ⟨W1.heap.size, 0, none⟩ 1 1 [.string Mb.kPath, .string p] rfl rfl (NEW1.out _ _) (two_cells _ _) (by unfold maxLen; omega) (by omega) (by have := SZ1.out; simp; omega) ?_; intro v2 W2 hown2 hgrow2 hnil2; have OWN2 := Lib.hid (show W2.ownsRow (w.heap.size + 1) 113 2 v2 1 [.string Mb.kPath, .string p] from hown2); have HW2 := Lib.hid (below_app6 (HW1.out.alloc SZ1.out _) (by simp) (owns_below OWN1.out ((Below.refl _ _).alloc (Nat.le_refl _) _)) hgrow2); have SZ2 := Lib.hid (show w.heap.size + 1 ≤ W2.heap.size by have := HW2.out.size; simpa using this); have NEW2 := Lib.hid (fun (k v : ByteArray) => news2 W2 113 k v); have q6' : W2.cell? ⟨w.heap.size, 6, none⟩ = some (.string l) := ((BX.new w 50 #[.string p, .int .i64 k, .int .i64 m, .int .i64 u, .int .i64 g, .int .i64 t, .string l, .slice A n c]).below HW2.out (by omega)).cell rfl; clear hown2 hgrow2 hnil2))
      go_ret
      exact ⟨_, rfl, owns_base OWN2.out (by omega), (mb_new _ _).trans (HW2.out.mono (by omega))⟩
end Go.Proofs.YtjofdgjcbjdhbaaGreatDoor
