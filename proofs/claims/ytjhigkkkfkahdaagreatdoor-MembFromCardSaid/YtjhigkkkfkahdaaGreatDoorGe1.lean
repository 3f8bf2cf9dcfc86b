/- WALKS OF LAYER 8, SECOND PART: two members held against each other; a member of the law's made the code's; whether a text has a 0; what a header's records tell. -/
import Derived.Test.YtjhigkkkfkahdaaGreatDoorE8a
import Derived.Test.YtjhigkkkfkahdaaGreatDoorR6d
import Derived.Test.YtjhigkkkfkahdaaGreatDoorH5a
namespace Go.Proofs.YtjhigkkkfkahdaaGreatDoor
open Go Go.RowKit
set_option maxHeartbeats 1600000
set_option maxRecDepth 100000
set_option linter.unusedVariables false
theorem mtheirs_any (p l : ByteArray) (k m u g t : Int) (A : Option Addr) (n c : Nat) (w : World) :
    Calls Tryz.prog 11 #[.agg #[.string p, .int .i64 k, .int .i64 m, .int .i64 u, .int .i64 g, .int .i64 t, .string l, .slice A n c]] w fun e w' => e = .returned (.agg #[.string p, .int .i64 k, .int .i64 m, .int .i64 u, .int .i64 g, .int .i64 t, .string l, .slice A n c]) ∧ Below w.heap.size w w' := by
  go_enter Tryz.func11, Tryz.ntmps11
  go_wp2
  refine bodyPost_ret (v := .agg #[.string p, .int .i64 k, .int .i64 m, .int .i64 u, .int .i64 g, .int .i64 t, .string l, .slice A n c]) (by simp [results, Tryz.f11, go_sem]) rfl ⟨rfl, ?_⟩
  exact ((Below.refl _ _).alloc (Nat.le_refl _) _).alloc (by simp) _
theorem dec5000 (n : Nat) : decide ((5000 : Int) < n) = decide (5000 < n) := decide_eq_decide.2 (by omega)
theorem dec600' (n : Nat) : decide ((600 : Int) < n) = decide (600 < n) := decide_eq_decide.2 (by omega)
/-- Has a member too much? -/
def farM (p l : ByteArray) (n : Nat) : Bool := decide (600 < p.size) || decide (600 < l.size) || decide (5000 < n)
theorem mfar_any (p l : ByteArray) (k m u g t : Int) (A : Option Addr) (n c : Nat) (w : World) (hp : p.size ≤ maxLen) (hl : l.size ≤ maxLen) (hn : n ≤ maxLen) :
    Calls Tryz.prog 13 #[.agg #[.string p, .int .i64 k, .int .i64 m, .int .i64 u, .int .i64 g, .int .i64 t, .string l, .slice A n c]] w fun e w' => e = .returned (.bool (farM p l n)) ∧ Below w.heap.size w w' := by
  unfold maxLen at hp hl hn
  unfold farM
  go_enter Tryz.func13, Tryz.ntmps13
  go_wp2
  all_goals
    go_ret
    refine ⟨ret_bool ?_, (Below.refl _ _).alloc (Nat.le_refl _) _⟩
    simp_all
    try (first | rw [dec600', dec600', dec5000] | omega)
/-- Are two members the same? -/
def sameM (p l p2 l2 : ByteArray) (k m u g t k2 m2 u2 g2 t2 : Int) (xs ys : List Int) : Bool :=
  decide (p = p2) && (decide (k = k2) && (decide (m = m2 ∧ u = u2 ∧ g = g2 ∧ t = t2) && (decide (l = l2) && decide (xs = ys))))
theorem textB (a b : ByteArray) : (a.toList == b.toList) = decide (a = b) := Pp.toList_eq a b
theorem msame_any (p l : ByteArray) (k m u g t : Int) (A : Option Addr) (n c : Nat) (p2 l2 : ByteArray) (k2 m2 u2 g2 t2 : Int) (A2 : Option Addr) (n2 c2 : Nat) (xs ys : List Int) (w : World) (ha : RB w w.heap.size A n xs) (hb : RB w w.heap.size A2 n2 ys) (hx : Byt xs) (hy : Byt ys) (hn : n ≤ 1000000) (hn2 : n2 ≤ 1000000) :
    Calls Tryz.prog 12 #[.agg #[.string p, .int .i64 k, .int .i64 m, .int .i64 u, .int .i64 g, .int .i64 t, .string l, .slice A n c], .agg #[.string p2, .int .i64 k2, .int .i64 m2, .int .i64 u2, .int .i64 g2, .int .i64 t2, .string l2, .slice A2 n2 c2]] w fun e w' => e = .returned (.bool (sameM p l p2 l2 k m u g t k2 m2 u2 g2 t2 xs ys)) ∧ Below w.heap.size w w' := by
  have ceq := fun W (bw : Below w.heap.size w W) => equal_any A A2 n n2 c c2 xs ys W ((ha.below bw).more bw.size) ((hb.below bw).more bw.size) hx hy
  unfold sameM
  generalize decide (xs = ys) = be at *
  have CEQ := Lib.hid ceq
  clear ceq ha hb hx hy
  go_enter Tryz.func12, Tryz.ntmps12
  go_wp2_with (go_at_call 39; (with_reducible refine (CEQ.out _ (((Below.refl _ _).alloc (Nat.le_refl _) _).alloc (by simp) _)).mono ?_); rintro e w2 ⟨rfl, rfl⟩)
  all_goals
    go_ret
    refine ⟨ret_bool ?_, ((Below.refl _ _).alloc (Nat.le_refl _) _).alloc (by simp) _⟩
    simp_all [toList_iff]
theorem mtold_any (A : Option Addr) (n c : Nat) (rs : List Rc.Rec) (key d : ByteArray) (w : World) (hl : RL w w.heap.size A n rs) (hn : n ≤ 100000) :
    Calls Tryz.prog 31 #[.slice A n c, .string key, .string d] w fun e w' => e = .returned (.string (Mb.told8 rs key d)) ∧ w = w' := by
  have F := Lib.hid (find6_any A n c rs key w hl hn)
  unfold findV at F
  unfold Mb.told8
  cases h : Rc.findR key rs with
  | none =>
    rw [h] at F
    clear h hl
    go_enter Tryz.func31, Tryz.ntmps31
    go_wp2_with (go_at_call 53; (with_reducible refine (F.out).mono ?_); rintro e w1 ⟨rfl, rfl⟩)
    go_ret
    exact ⟨rfl, rfl⟩
  | some v =>
    rw [h] at F
    clear h hl
    go_enter Tryz.func31, Tryz.ntmps31
    go_wp2_with (go_at_call 53; (with_reducible refine (F.out).mono ?_); rintro e w1 ⟨rfl, rfl⟩)
    go_ret
    exact ⟨rfl, rfl⟩
theorem has_loose (s : ByteArray) : (decide (strOfNums (Sf.looseS (Rc.ints s.data.toList)) = s)) = !Mb.has0 s := by
  have e : Rc.ints s.data.toList = Sf.nums s := rfl
  rw [e]
  have hz : Sf.zi (Sf.nums s) = Sf.zb s.data.toList := by
    have := Sf.zb_strOfNums (Sf.nums s) (Sf.byt_nums s)
    rw [Sf.str_nums] at this
    exact this.symm
  have hl : (Sf.nums s).length = s.size := by simp [Sf.nums]
  have hle := Sf.zb_size s
  unfold Mb.has0
  by_cases h : Sf.zb s.data.toList < s.size
  · have h1 : ¬ strOfNums (Sf.looseS (Sf.nums s)) = s := fun h2 => by
      have := congrArg ByteArray.size h2
      rw [Sf.size_strOfNums] at this
      unfold Sf.looseS at this
      rw [List.length_take, hz, hl] at this
      omega
    rw [decide_eq_true h, decide_eq_false h1]
    rfl
  · have h1 : strOfNums (Sf.looseS (Sf.nums s)) = s := by
      unfold Sf.looseS
      rw [hz, List.take_of_length_le (by omega), Sf.str_nums]
    rw [decide_eq_false h, decide_eq_true h1]
    rfl
theorem mhas_any (s : ByteArray) (w : World) (hs : s.size ≤ 1000000) : Calls Tryz.prog 86 #[.string s] w fun e w' => e = .returned (.bool (Mb.has0 s)) ∧ Below w.heap.size w w' := by
  have hr : RB (Lib.bytesWorld w 5 s) (Lib.bytesWorld w 5 s).heap.size (some ⟨w.heap.size, 0, none⟩) s.size (Rc.ints s.data.toList) := by
    obtain ⟨A, c, ev, hr, h1, h2⟩ := conv_rv w s hs 5
    injection ev with e1 e2 e3
    subst e1
    exact hr
  have cb := conv_below (Below.refl w.heap.size w) (Nat.le_refl _) s 5
  have cl := refloose_any (some ⟨w.heap.size, 0, none⟩) s.size (grownCap w s.size 0 5) (Rc.ints s.data.toList) _ hr (Rc.ints_byt _) (by omega)
  have cr := conv_run s w
  have hh := has_loose s
  rw [← textB] at hh
  generalize strOfNums (Sf.looseS (Rc.ints s.data.toList)) = r at *
  generalize Lib.bytesWorld w 5 s = w1 at *
  generalize grownCap w s.size 0 5 = cc at *
  generalize Mb.has0 s = b at *
  have CL := Lib.hid cl; have CB := Lib.hid cb; have HH := Lib.hid hh
  clear cl cb hr hh
  go_enter Tryz.func86, Tryz.ntmps86
  go_wp2_with (go_at_call 111; (with_reducible refine (CL.out).mono ?_); rintro e w2 ⟨rfl, rfl⟩)
  go_ret
  refine ⟨ret_bool ?_, CB.out⟩
  simp [HH.out]
end Go.Proofs.YtjhigkkkfkahdaaGreatDoor
/- WALKS OF LAYER 8, THIRD PART: may a member be? the code's and the reference's. -/
namespace Go.Proofs.YtjhigkkkfkahdaaGreatDoor
open Go Go.RowKit
set_option maxHeartbeats 1600000
set_option maxRecDepth 100000
set_option linter.unusedVariables false
namespace Mb
/-- May a link be, of a kind? the error's number. -/
def linkE (k : Int) (l : ByteArray) : Int :=
  if k = 2 then (if path l = true then 0 else 8) else if k = 3 then (if l.size = 0 ∨ has0 l = true then 3 else if 300 < l.size then 10 else 0) else (if l.size = 0 then 0 else 3)
theorem kind_link {k : Int} (l : ByteArray) (n : Nat) (h1 : ¬ (k = 1 ∧ 4096 < n)) : kindE k l n = if linkE k l = 0 then (if k ≠ 1 ∧ 0 < n then 3 else 0) else linkE k l := by
  unfold kindE linkE
  by_cases a : k = 1
  · subst a
    rw [if_pos rfl, if_neg (show ¬ 4096 < n by omega)]
    by_cases c : l.size = 0 <;> simp [c]
  · rw [if_neg a]
    by_cases b : k = 2
    · subst b
      by_cases c : path l = true <;> by_cases d : n = 0 <;> simp [c, d] <;> omega
    · rw [if_neg b, if_neg b]
      by_cases c : k = 3
      · subst c
        rw [if_pos rfl, if_pos rfl]
        by_cases e : l.size = 0 ∨ has0 l = true
        · rw [if_pos e, if_pos e]; rfl
        · rw [if_neg e, if_neg e]
          by_cases f : 300 < l.size
          · rw [if_pos f, if_pos f]; rfl
          · rw [if_neg f, if_neg f]
            by_cases d : n = 0 <;> simp [d] <;> omega
      · rw [if_neg c, if_neg c]
        by_cases e : l.size = 0 <;> by_cases d : n = 0 <;> simp [e, d, a] <;> omega
end Mb
theorem mb_box {w W : World} {T : TypeId} {cs : Array Value} (h : Below (w.alloc (.cells cs T)).heap.size (w.alloc (.cells cs T)) W) : BX W w.heap.size T cs := (BX.new w T cs).later h
theorem mbBox {w W : World} {T : TypeId} {cs : Array Value} (h : Below (w.alloc (.cells cs T)).heap.size (w.alloc (.cells cs T)) W) : BX W w.heap.size T cs := mb_box h
theorem mb_below {w W : World} {o : Obj} (h : Below (w.alloc o).heap.size (w.alloc o) W) : Below w.heap.size w W := ((Below.refl _ w).alloc (Nat.le_refl _) o).trans (h.mono (by simp))
theorem mb_new (w : World) (o : Obj) : Below w.heap.size w (w.alloc o) := (Below.refl _ w).alloc (Nat.le_refl _) o
theorem refmlink_any (p l : ByteArray) (k m u g t : Int) (A : Option Addr) (n c : Nat) (w : World) (hl : l.size ≤ 1000000) :
    Calls Tryz.prog 61 #[.agg #[.string p, .int .i64 k, .int .i64 m, .int .i64 u, .int .i64 g, .int .i64 t, .string l, .slice A n c]] w fun e w' => e = .returned (.int .i64 (Mb.linkE k l)) ∧ Below w.heap.size w w' := by
  have emp := empty_iff l
  unfold Mb.linkE
  by_cases h2 : k = 2
  · subst h2
    rw [if_pos rfl]
    have cp := fun W => refparts_any l W hl
    unfold Mb.path
    obtain ⟨⟨L, cc⟩, hP⟩ : ∃ P, Pp.partsS l = P := ⟨_, rfl⟩
    rw [hP] at cp ⊢
    have CP := Lib.hid cp
    clear cp hP emp
    by_cases hc : cc = 0
    · subst hc
      go_enter Tryz.func61, Tryz.ntmps61
      go_wp2_with (go_at_call 59; (with_reducible refine (CP.out _).mono ?_); rintro e w1 ⟨v, rfl, _, hb1⟩)
      go_ret
      exact ⟨rfl, mb_below hb1⟩
    · have g : (cc == 0) = false := by simp [hc]
      have g2 : (cc != 0) = true := by simp [hc]
      clear hc
      go_enter Tryz.func61, Tryz.ntmps61
      go_wp2_with (go_at_call 59; (with_reducible refine (CP.out _).mono ?_); rintro e w1 ⟨v, rfl, _, hb1⟩)
      go_ret
      exact ⟨by simp, mb_below hb1⟩
  · rw [if_neg h2]
    have e2 : (k == 2) = false := by simp [h2]
    by_cases h3 : k = 3
    · subst h3
      clear e2
      rw [if_pos rfl]
      by_cases h0 : l.size = 0
      · rw [if_pos (.inl h0)]
        rw [decide_eq_true h0] at emp
        go_enter Tryz.func61, Tryz.ntmps61
        go_wp2
        go_ret
        exact ⟨rfl, mb_new _ _⟩
      · rw [decide_eq_false h0] at emp
        have ch := fun W => mhas_any l W hl
        by_cases hh : Mb.has0 l = true
        · rw [if_pos (.inr hh)]
          rw [hh] at ch
          have CH := Lib.hid ch
          clear ch hh h0
          go_enter Tryz.func61, Tryz.ntmps61
          go_wp2_with (go_at_call 86; (with_reducible refine (CH.out _).mono ?_); rintro e w1 ⟨rfl, hb1⟩)
          go_ret
          exact ⟨rfl, mb_below hb1⟩
        · rw [if_neg (fun h => h.elim h0 hh)]
          have hh' : Mb.has0 l = false := by simpa using hh
          rw [hh'] at ch
          have CH := Lib.hid ch
          clear ch hh h0 hh'
          by_cases hs : 300 < l.size
          · have hs' : (300 : Int) < l.size := by omega
            rw [if_pos hs]
            go_enter Tryz.func61, Tryz.ntmps61
            go_wp2_with (go_at_call 86; (with_reducible refine (CH.out _).mono ?_); rintro e w1 ⟨rfl, hb1⟩; have q6 : w1.cell? ⟨w.heap.size, 6, none⟩ = some (.string l) := (mb_box hb1).cell rfl)
            go_ret
            exact ⟨rfl, mb_below hb1⟩
          · have hs' : ¬ (300 : Int) < l.size := by omega
            rw [if_neg hs]
            go_enter Tryz.func61, Tryz.ntmps61
            go_wp2_with (go_at_call 86; (with_reducible refine (CH.out _).mono ?_); rintro e w1 ⟨rfl, hb1⟩; have q6 : w1.cell? ⟨w.heap.size, 6, none⟩ = some (.string l) := (mb_box hb1).cell rfl)
            go_ret
            exact ⟨rfl, mb_below hb1⟩
    · rw [if_neg h3]
      have e3 : (k == 3) = false := by simp [h3]
      clear h2 h3
      by_cases h0 : l.size = 0
      · rw [if_pos h0]
        rw [decide_eq_true h0] at emp
        go_enter Tryz.func61, Tryz.ntmps61
        go_wp2
        go_ret
        exact ⟨rfl, mb_new _ _⟩
      · rw [if_neg h0]
        rw [decide_eq_false h0] at emp
        go_enter Tryz.func61, Tryz.ntmps61
        go_wp2
        go_ret
        exact ⟨rfl, mb_new _ _⟩
end Go.Proofs.YtjhigkkkfkahdaaGreatDoor
/- WALKS OF LAYER 8, FOURTH PART: may a member be? the code's and the reference's, whole. -/
namespace Go.Proofs.YtjhigkkkfkahdaaGreatDoor
open Go Go.RowKit
set_option maxHeartbeats 1600000
set_option maxRecDepth 100000
set_option linter.unusedVariables false
theorem ix0 {l : ByteArray} {b : Bool} (h : Mb.has0 l = b) : decide (0 ≤ Lib.indexByte l.data.toList ((0 : Int).toNat.toUInt8)) = b := by
  rw [show ((0 : Int).toNat.toUInt8) = 0 from rfl, Sf.indexByte_zb]
  have e : Mb.has0 l = decide (Sf.zb l.data.toList < l.data.toList.length) := rfl
  rw [e] at h
  subst h
  by_cases c : Sf.zb l.data.toList < l.data.toList.length
  · rw [if_pos c, decide_eq_true c, decide_eq_true (by omega)]
  · rw [if_neg c, decide_eq_false c]; rfl
theorem mkindof_any (p l : ByteArray) (k m u g t : Int) (A : Option Addr) (n c : Nat) (w : World) (hl : l.size ≤ 1000000) (hn : n ≤ 1000000) (h1 : 1 ≤ k) (h4 : k ≤ 4) :
    Calls Tryz.prog 57 #[.agg #[.string p, .int .i64 k, .int .i64 m, .int .i64 u, .int .i64 g, .int .i64 t, .string l, .slice A n c]] w fun e w' => e = .returned (.int .i64 (Mb.kindE k l n)) ∧ Below w.heap.size w w' := by
  have emp := empty_iff l
  have ci := fun W => ibs_any l 0 W
  have i0 := fun b (h : Mb.has0 l = b) => ix0 h
  generalize Lib.indexByte l.data.toList ((0 : Int).toNat.toUInt8) = z at *
  have I0 := Lib.hid i0; have CI := Lib.hid ci
  clear i0 ci
  unfold Mb.kindE
  have : k = 1 ∨ k = 2 ∨ k = 3 ∨ k = 4 := by omega
  rcases this with rfl | rfl | rfl | rfl
  · clear h1 h4
    rw [if_pos rfl]
    by_cases hb : 4096 < n
    · rw [if_pos hb]
      have hb' : (4096 : Int) < n := by omega
      go_enter Tryz.func57, Tryz.ntmps57
      go_wp2
      go_ret
      exact ⟨rfl, mb_new _ _⟩
    · rw [if_neg hb]
      have hb' : ¬ (4096 : Int) < n := by omega
      by_cases h0 : l.size = 0
      · rw [if_pos h0]
        rw [decide_eq_true h0] at emp
        go_enter Tryz.func57, Tryz.ntmps57
        go_wp2
        go_ret
        exact ⟨rfl, mb_new _ _⟩
      · rw [if_neg h0]
        rw [decide_eq_false h0] at emp
        go_enter Tryz.func57, Tryz.ntmps57
        go_wp2
        go_ret
        exact ⟨rfl, mb_new _ _⟩
  · clear h1 h4
    rw [if_neg (by decide), if_pos rfl]
    have cp := fun W => may_any l W hl
    have pf := fun h => Mb.path_facts (s := l) h
    rw [show ((Pp.partsS l).2 == 0) = Mb.path l from rfl] at cp
    cases hp : Mb.path l with
    | false =>
      rw [hp] at cp
      rw [if_neg (by decide)]
      have CP := Lib.hid cp
      clear cp pf hp emp
      go_enter Tryz.func57, Tryz.ntmps57
      go_wp2_with (go_at_call 55; (with_reducible refine (CP.out _).mono ?_); rintro e w1 ⟨rfl, hb1⟩)
      go_ret
      exact ⟨rfl, mb_below hb1⟩
    | true =>
      rw [hp] at cp
      rw [if_pos rfl]
      obtain ⟨f1, f2, f3⟩ := pf hp
      have CP := Lib.hid cp
      have hz := I0.out false (Mb.nz_has0 f3)
      have hz' : ¬ 0 ≤ z := by simpa using hz
      have hs' : ¬ (300 : Int) < l.size := by omega
      rw [decide_eq_false (by omega)] at emp
      clear cp pf hp f1 f2 f3 hz
      by_cases h0 : n = 0
      · subst h0
        rw [if_pos rfl]
        go_enter Tryz.func57, Tryz.ntmps57
        go_wp2_with (first
          | (go_at_call 55; (with_reducible refine (CP.out _).mono ?_); rintro e w1 ⟨rfl, hb1⟩; have q6 : w1.cell? ⟨w.heap.size, 6, none⟩ = some (.string l) := (mb_box hb1).cell rfl; have q7 : w1.cell? ⟨w.heap.size, 7, none⟩ = some (.slice A 0 c) := (mb_box hb1).cell rfl; have q1 : w1.cell? ⟨w.heap.size, 1, none⟩ = some (.int .i64 2) := (mb_box hb1).cell rfl; have HB := Lib.hid hb1; clear hb1)
          | (go_at_call 83; (with_reducible refine (CI.out _).mono ?_); rintro e w2 ⟨rfl, rfl⟩))
        go_ret
        exact ⟨rfl, mb_below HB.out⟩
      · rw [if_neg h0]
        have h0' : (0 : Int) < n := by omega
        go_enter Tryz.func57, Tryz.ntmps57
        go_wp2_with (first
          | (go_at_call 55; (with_reducible refine (CP.out _).mono ?_); rintro e w1 ⟨rfl, hb1⟩; have q6 : w1.cell? ⟨w.heap.size, 6, none⟩ = some (.string l) := (mb_box hb1).cell rfl; have q7 : w1.cell? ⟨w.heap.size, 7, none⟩ = some (.slice A n c) := (mb_box hb1).cell rfl; have q1 : w1.cell? ⟨w.heap.size, 1, none⟩ = some (.int .i64 2) := (mb_box hb1).cell rfl; have HB := Lib.hid hb1; clear hb1)
          | (go_at_call 83; (with_reducible refine (CI.out _).mono ?_); rintro e w2 ⟨rfl, rfl⟩))
        go_ret
        exact ⟨rfl, mb_below HB.out⟩
  · clear h1 h4
    rw [if_neg (by decide), if_neg (by decide), if_pos rfl]
    by_cases h0 : l.size = 0
    · rw [if_pos (.inl h0)]
      rw [decide_eq_true h0] at emp
      go_enter Tryz.func57, Tryz.ntmps57
      go_wp2
      go_ret
      exact ⟨rfl, mb_new _ _⟩
    · rw [decide_eq_false h0] at emp
      cases hh : Mb.has0 l with
      | true =>
        rw [if_pos (.inr rfl)]
        have hz := I0.out _ hh
        have hz' : 0 ≤ z := by simpa using hz
        clear hz hh h0
        go_enter Tryz.func57, Tryz.ntmps57
        go_wp2_with (go_at_call 83; (with_reducible refine (CI.out _).mono ?_); rintro e w2 ⟨rfl, rfl⟩)
        go_ret
        exact ⟨rfl, mb_new _ _⟩
      | false =>
        rw [if_neg (fun h => h.elim h0 (by decide))]
        have hz := I0.out _ hh
        have hz' : ¬ 0 ≤ z := by simpa using hz
        clear hz hh h0
        by_cases hs : 300 < l.size
        · have hs' : (300 : Int) < l.size := by omega
          rw [if_pos hs]
          go_enter Tryz.func57, Tryz.ntmps57
          go_wp2_with (go_at_call 83; (with_reducible refine (CI.out _).mono ?_); rintro e w2 ⟨rfl, rfl⟩)
          go_ret
          exact ⟨rfl, mb_new _ _⟩
        · have hs' : ¬ (300 : Int) < l.size := by omega
          rw [if_neg hs]
          by_cases h0 : n = 0
          · subst h0
            rw [if_pos rfl]
            go_enter Tryz.func57, Tryz.ntmps57
            go_wp2_with (go_at_call 83; (with_reducible refine (CI.out _).mono ?_); rintro e w2 ⟨rfl, rfl⟩)
            go_ret
            exact ⟨rfl, mb_new _ _⟩
          · rw [if_neg h0]
            have h0' : (0 : Int) < n := by omega
            go_enter Tryz.func57, Tryz.ntmps57
            go_wp2_with (go_at_call 83; (with_reducible refine (CI.out _).mono ?_); rintro e w2 ⟨rfl, rfl⟩)
            go_ret
            exact ⟨rfl, mb_new _ _⟩
  · clear h1 h4
    rw [if_neg (by decide), if_neg (by decide), if_neg (by decide)]
    by_cases h0 : n = 0
    · subst h0
      by_cases h2 : l.size = 0
      · rw [if_pos ⟨h2, rfl⟩]
        rw [decide_eq_true h2] at emp
        go_enter Tryz.func57, Tryz.ntmps57
        go_wp2
        go_ret
        exact ⟨rfl, mb_new _ _⟩
      · rw [if_neg (fun h => h2 h.1)]
        rw [decide_eq_false h2] at emp
        go_enter Tryz.func57, Tryz.ntmps57
        go_wp2
        go_ret
        exact ⟨rfl, mb_new _ _⟩
    · rw [if_neg (fun h => h0 h.2)]
      have h0' : (0 : Int) < n := by omega
      go_enter Tryz.func57, Tryz.ntmps57
      go_wp2
      go_ret
      exact ⟨rfl, mb_new _ _⟩
theorem mmay_any (p l : ByteArray) (k m u g t : Int) (A : Option Addr) (n c : Nat) (w : World) (hp : p.size ≤ 1000000) (hl : l.size ≤ 1000000) (hn : n ≤ 1000000) :
    Calls Tryz.prog 34 #[.agg #[.string p, .int .i64 k, .int .i64 m, .int .i64 u, .int .i64 g, .int .i64 t, .string l, .slice A n c]] w fun e w' => e = .returned (.int .i64 (Mb.may p l k m u g t n)) ∧ Below w.heap.size w w' := by
  have cp := fun W => may_any p W hp
  rw [show ((Pp.partsS p).2 == 0) = Mb.path p from rfl] at cp
  have ct := fun W => mtype_any k W
  have cm := fun W => mmeta_any m u g t W
  have CK := Lib.hid (fun (a : 1 ≤ k) (b : k ≤ 4) W => mkindof_any p l k m u g t A n c W hl hn a b)
  have CT := Lib.hid ct
  unfold Mb.may
  cases hpp : Mb.path p with
  | false =>
    rw [hpp] at cp
    rw [if_neg (by decide)]
    have CP := Lib.hid cp
    clear cp cm ct hpp
    go_enter Tryz.func34, Tryz.ntmps34
    go_wp2_with (go_at_call 55; (with_reducible refine (CP.out _).mono ?_); rintro e w1 ⟨rfl, hb1⟩)
    go_ret
    exact ⟨rfl, mb_below hb1⟩
  | true =>
    rw [hpp] at cp
    rw [if_pos rfl]
    have CP := Lib.hid cp
    clear cp ct hpp
    by_cases hk : 1 ≤ k ∧ k ≤ 4
    · rw [if_pos hk]
      have hty : (Mb.typ k == 0) = false := by
        have : k = 1 ∨ k = 2 ∨ k = 3 ∨ k = 4 := by omega
        rcases this with rfl | rfl | rfl | rfl <;> decide
      have CK2 := Lib.hid (CK.out hk.1 hk.2)
      generalize Mb.typ k = ty at *
      generalize Mb.kindE k l n = ke at *
      clear CK hk
      cases hm : Mb.numOk m u g t with
      | false =>
        rw [hm] at cm
        rw [if_neg (by decide)]
        have CM := Lib.hid cm
        clear cm hm
        go_enter Tryz.func34, Tryz.ntmps34
        go_wp2_with (first
          | (go_at_call 55; (with_reducible refine (CP.out _).mono ?_); rintro e w1 ⟨rfl, hb1⟩; have q0 : w1.cell? ⟨w.heap.size, 0, none⟩ = some (.string p) := (mbBox hb1).cell rfl; have q1 : w1.cell? ⟨w.heap.size, 1, none⟩ = some (.int .i64 k) := (mbBox hb1).cell rfl; have q2 : w1.cell? ⟨w.heap.size, 2, none⟩ = some (.int .i64 m) := (mbBox hb1).cell rfl; have q3 : w1.cell? ⟨w.heap.size, 3, none⟩ = some (.int .i64 u) := (mbBox hb1).cell rfl; have q4 : w1.cell? ⟨w.heap.size, 4, none⟩ = some (.int .i64 g) := (mbBox hb1).cell rfl; have q5 : w1.cell? ⟨w.heap.size, 5, none⟩ = some (.int .i64 t) := (mbBox hb1).cell rfl; have q6 : w1.cell? ⟨w.heap.size, 6, none⟩ = some (.string l) := (mbBox hb1).cell rfl; have q7 : w1.cell? ⟨w.heap.size, 7, none⟩ = some (.slice A n c) := (mbBox hb1).cell rfl; have HB1 := Lib.hid hb1; have HB := Lib.hid (mb_below hb1); clear hb1)
          | (go_at_call 28; (with_reducible refine (CT.out _).mono ?_); rintro e w2 ⟨rfl, rfl⟩)
          | (go_at_call 56; (with_reducible refine (CM.out _).mono ?_); rintro e w3 ⟨rfl, hb3⟩))
        go_ret
        exact ⟨rfl, bthen HB.out hb3⟩
      | true =>
        rw [hm] at cm
        rw [if_pos rfl]
        have CM := Lib.hid cm
        clear cm hm
        go_enter Tryz.func34, Tryz.ntmps34
        go_wp2_with (first
          | (go_at_call 55; (with_reducible refine (CP.out _).mono ?_); rintro e w1 ⟨rfl, hb1⟩; have q0 : w1.cell? ⟨w.heap.size, 0, none⟩ = some (.string p) := (mbBox hb1).cell rfl; have q1 : w1.cell? ⟨w.heap.size, 1, none⟩ = some (.int .i64 k) := (mbBox hb1).cell rfl; have q2 : w1.cell? ⟨w.heap.size, 2, none⟩ = some (.int .i64 m) := (mbBox hb1).cell rfl; have q3 : w1.cell? ⟨w.heap.size, 3, none⟩ = some (.int .i64 u) := (mbBox hb1).cell rfl; have q4 : w1.cell? ⟨w.heap.size, 4, none⟩ = some (.int .i64 g) := (mbBox hb1).cell rfl; have q5 : w1.cell? ⟨w.heap.size, 5, none⟩ = some (.int .i64 t) := (mbBox hb1).cell rfl; have q6 : w1.cell? ⟨w.heap.size, 6, none⟩ = some (.string l) := (mbBox hb1).cell rfl; have q7 : w1.cell? ⟨w.heap.size, 7, none⟩ = some (.slice A n c) := (mbBox hb1).cell rfl; have HB1 := Lib.hid hb1; have HB := Lib.hid (mb_below hb1); clear hb1)
          | (go_at_call 28; (with_reducible refine (CT.out _).mono ?_); rintro e w2 ⟨rfl, rfl⟩)
          | (go_at_call 56; (with_reducible refine (CM.out _).mono ?_); rintro e w3 ⟨rfl, hb3⟩; have r0 : w3.cell? ⟨w.heap.size, 0, none⟩ = some (.string p) := ((mbBox HB1.out).later hb3).cell rfl; have r1 : w3.cell? ⟨w.heap.size, 1, none⟩ = some (.int .i64 k) := ((mbBox HB1.out).later hb3).cell rfl; have r2 : w3.cell? ⟨w.heap.size, 2, none⟩ = some (.int .i64 m) := ((mbBox HB1.out).later hb3).cell rfl; have r3 : w3.cell? ⟨w.heap.size, 3, none⟩ = some (.int .i64 u) := ((mbBox HB1.out).later hb3).cell rfl; have r4 : w3.cell? ⟨w.heap.size, 4, none⟩ = some (.int .i64 g) := ((mbBox HB1.out).later hb3).cell rfl; have r5 : w3.cell? ⟨w.heap.size, 5, none⟩ = some (.int .i64 t) := ((mbBox HB1.out).later hb3).cell rfl; have r6 : w3.cell? ⟨w.heap.size, 6, none⟩ = some (.string l) := ((mbBox HB1.out).later hb3).cell rfl; have r7 : w3.cell? ⟨w.heap.size, 7, none⟩ = some (.slice A n c) := ((mbBox HB1.out).later hb3).cell rfl; have HB3 := Lib.hid (bthen HB.out hb3); clear hb3)
          | (go_at_call 57; (with_reducible refine (CK2.out _).mono ?_); rintro e w4 ⟨rfl, hb4⟩))
        go_ret
        exact ⟨rfl, bthen HB3.out hb4⟩
    · rw [if_neg hk]
      have hty : Mb.typ k = 0 := by unfold Mb.typ; rw [if_neg (by omega), if_neg (by omega), if_neg (by omega), if_neg (by omega)]
      rw [hty] at CT
      clear hk hty cm CK
      go_enter Tryz.func34, Tryz.ntmps34
      go_wp2_with (first
        | (go_at_call 55; (with_reducible refine (CP.out _).mono ?_); rintro e w1 ⟨rfl, hb1⟩; have q0 : w1.cell? ⟨w.heap.size, 0, none⟩ = some (.string p) := (mbBox hb1).cell rfl; have q1 : w1.cell? ⟨w.heap.size, 1, none⟩ = some (.int .i64 k) := (mbBox hb1).cell rfl; have q2 : w1.cell? ⟨w.heap.size, 2, none⟩ = some (.int .i64 m) := (mbBox hb1).cell rfl; have q3 : w1.cell? ⟨w.heap.size, 3, none⟩ = some (.int .i64 u) := (mbBox hb1).cell rfl; have q4 : w1.cell? ⟨w.heap.size, 4, none⟩ = some (.int .i64 g) := (mbBox hb1).cell rfl; have q5 : w1.cell? ⟨w.heap.size, 5, none⟩ = some (.int .i64 t) := (mbBox hb1).cell rfl; have q6 : w1.cell? ⟨w.heap.size, 6, none⟩ = some (.string l) := (mbBox hb1).cell rfl; have q7 : w1.cell? ⟨w.heap.size, 7, none⟩ = some (.slice A n c) := (mbBox hb1).cell rfl; have HB := Lib.hid (mb_below hb1); clear hb1)
        | (go_at_call 28; (with_reducible refine (CT.out _).mono ?_); rintro e w2 ⟨rfl, rfl⟩))
      go_ret
      exact ⟨rfl, HB.out⟩
theorem refmmay_any (p l : ByteArray) (k m u g t : Int) (A : Option Addr) (n c : Nat) (w : World) (hp : p.size ≤ 1000000) (hl : l.size ≤ 1000000) (hn : n ≤ 1000000) :
    Calls Tryz.prog 38 #[.agg #[.string p, .int .i64 k, .int .i64 m, .int .i64 u, .int .i64 g, .int .i64 t, .string l, .slice A n c]] w fun e w' => e = .returned (.int .i64 (Mb.may p l k m u g t n)) ∧ Below w.heap.size w w' := by
  have cp := fun W => refparts_any p W hp
  have cm := fun W => refmmeta_any m u g t W
  have cl := fun W => refmlink_any p l k m u g t A n c W hl
  have CL := Lib.hid cl
  clear cl
  unfold Mb.may
  rw [show Mb.path p = ((Pp.partsS p).2 == 0) from rfl]
  obtain ⟨⟨L, cc⟩, hP⟩ : ∃ P, Pp.partsS p = P := ⟨_, rfl⟩
  rw [hP] at cp ⊢
  have CP := Lib.hid cp
  clear cp hP
  by_cases hc : cc = 0
  · subst hc
    rw [if_pos (show ((L, (0 : Int)).2 == 0) = true from rfl)]
    by_cases hk : 1 ≤ k ∧ k ≤ 4
    · rw [if_pos hk]
      have k1 : ¬ k < 1 := by omega
      have k4 : ¬ 4 < k := by omega
      cases hm : Mb.numOk m u g t with
      | false =>
        rw [hm] at cm
        rw [if_neg (by decide)]
        have CM := Lib.hid cm
        clear cm hm hk
        go_enter Tryz.func38, Tryz.ntmps38
        go_wp2_with (first
          | (go_at_call 59; (with_reducible refine (CP.out _).mono ?_); rintro e w1 ⟨v, rfl, _, hb1⟩; have q0 : w1.cell? ⟨w.heap.size, 0, none⟩ = some (.string p) := (mbBox hb1).cell rfl; have q1 : w1.cell? ⟨w.heap.size, 1, none⟩ = some (.int .i64 k) := (mbBox hb1).cell rfl; have q2 : w1.cell? ⟨w.heap.size, 2, none⟩ = some (.int .i64 m) := (mbBox hb1).cell rfl; have q3 : w1.cell? ⟨w.heap.size, 3, none⟩ = some (.int .i64 u) := (mbBox hb1).cell rfl; have q4 : w1.cell? ⟨w.heap.size, 4, none⟩ = some (.int .i64 g) := (mbBox hb1).cell rfl; have q5 : w1.cell? ⟨w.heap.size, 5, none⟩ = some (.int .i64 t) := (mbBox hb1).cell rfl; have q6 : w1.cell? ⟨w.heap.size, 6, none⟩ = some (.string l) := (mbBox hb1).cell rfl; have q7 : w1.cell? ⟨w.heap.size, 7, none⟩ = some (.slice A n c) := (mbBox hb1).cell rfl; have HB := Lib.hid (mb_below hb1); clear hb1)
          | (go_at_call 60; (with_reducible refine (CM.out _).mono ?_); rintro e w3 ⟨rfl, hb3⟩))
        go_ret
        exact ⟨rfl, bthen HB.out hb3⟩
      | true =>
        rw [hm] at cm
        rw [if_pos rfl]
        have CM := Lib.hid cm
        clear cm hm hk
        by_cases hb : k = 1 ∧ 4096 < n
        · obtain ⟨rfl, hb2⟩ := hb
          have hb' : (4096 : Int) < n := by omega
          have e : Mb.kindE 1 l n = 10 := by unfold Mb.kindE; rw [if_pos rfl, if_pos hb2]
          rw [e]
          clear e hb2
          go_enter Tryz.func38, Tryz.ntmps38
          go_wp2_with (first
            | (go_at_call 59; (with_reducible refine (CP.out _).mono ?_); rintro e w1 ⟨v, rfl, _, hb1⟩; have HB1 := Lib.hid hb1; have q0 : w1.cell? ⟨w.heap.size, 1, none⟩ = some (.int .i64 1) := (mb_box hb1).cell rfl; have q1 : w1.cell? ⟨w.heap.size, 2, none⟩ = some (.int .i64 m) := (mb_box hb1).cell rfl; have q2 : w1.cell? ⟨w.heap.size, 3, none⟩ = some (.int .i64 u) := (mb_box hb1).cell rfl; have q3 : w1.cell? ⟨w.heap.size, 4, none⟩ = some (.int .i64 g) := (mb_box hb1).cell rfl; have q4 : w1.cell? ⟨w.heap.size, 5, none⟩ = some (.int .i64 t) := (mb_box hb1).cell rfl; have HB := Lib.hid (mb_below hb1); clear hb1)
            | (go_at_call 60; (with_reducible refine (CM.out _).mono ?_); rintro e w3 ⟨rfl, hb3⟩; have r1 : w3.cell? ⟨w.heap.size, 1, none⟩ = some (.int .i64 1) := ((mb_box HB1.out).later hb3).cell rfl; have r7 : w3.cell? ⟨w.heap.size, 7, none⟩ = some (.slice A n c) := ((mb_box HB1.out).later hb3).cell rfl; have HB3 := Lib.hid (bthen HB.out hb3); clear hb3))
          go_ret
          exact ⟨rfl, HB3.out⟩
        · rw [Mb.kind_link l n hb]
          generalize Mb.linkE k l = le at *
          by_cases a : k = 1
          · subst a
            have h4 : ¬ (4096 : Int) < n := fun h => hb ⟨rfl, by omega⟩
            clear hb
            by_cases hle : le = 0
            · subst hle
              rw [if_pos rfl]
              rw [if_neg (fun h => h.1 rfl)]
              go_enter Tryz.func38, Tryz.ntmps38
              go_wp2_with (first
            | (go_at_call 59; (with_reducible refine (CP.out _).mono ?_); rintro e w1 ⟨v, rfl, _, hb1⟩; have HB1 := Lib.hid hb1; have q0 : w1.cell? ⟨w.heap.size, 1, none⟩ = some (.int .i64 1) := (mb_box hb1).cell rfl; have q1 : w1.cell? ⟨w.heap.size, 2, none⟩ = some (.int .i64 m) := (mb_box hb1).cell rfl; have q2 : w1.cell? ⟨w.heap.size, 3, none⟩ = some (.int .i64 u) := (mb_box hb1).cell rfl; have q3 : w1.cell? ⟨w.heap.size, 4, none⟩ = some (.int .i64 g) := (mb_box hb1).cell rfl; have q4 : w1.cell? ⟨w.heap.size, 5, none⟩ = some (.int .i64 t) := (mb_box hb1).cell rfl; have HB := Lib.hid (mb_below hb1); clear hb1)
            | (go_at_call 60; (with_reducible refine (CM.out _).mono ?_); rintro e w3 ⟨rfl, hb3⟩; have B3 := Lib.hid ((mb_box HB1.out).later hb3); have r0 : w3.cell? ⟨w.heap.size, 0, none⟩ = some (.string p) := B3.out.cell rfl; have r1 : w3.cell? ⟨w.heap.size, 1, none⟩ = some (.int .i64 1) := B3.out.cell rfl; have r2 : w3.cell? ⟨w.heap.size, 2, none⟩ = some (.int .i64 m) := B3.out.cell rfl; have r3 : w3.cell? ⟨w.heap.size, 3, none⟩ = some (.int .i64 u) := B3.out.cell rfl; have r4 : w3.cell? ⟨w.heap.size, 4, none⟩ = some (.int .i64 g) := B3.out.cell rfl; have r5 : w3.cell? ⟨w.heap.size, 5, none⟩ = some (.int .i64 t) := B3.out.cell rfl; have r6 : w3.cell? ⟨w.heap.size, 6, none⟩ = some (.string l) := B3.out.cell rfl; have r7 : w3.cell? ⟨w.heap.size, 7, none⟩ = some (.slice A n c) := B3.out.cell rfl; have HB3 := Lib.hid (bthen HB.out hb3); clear hb3)
            | (go_at_call 61; (with_reducible refine (CL.out _).mono ?_); rintro e w4 ⟨rfl, hb4⟩; have s1 : w4.cell? ⟨w.heap.size, 1, none⟩ = some (.int .i64 1) := (B3.out.later hb4).cell rfl; have s7 : w4.cell? ⟨w.heap.size, 7, none⟩ = some (.slice A n c) := (B3.out.later hb4).cell rfl; have HB4 := Lib.hid (bthen HB3.out hb4); clear hb4))
              go_ret
              exact ⟨rfl, HB4.out⟩
            · rw [if_neg hle]
              have gl : (le == 0) = false := by simp [hle]
              have gl2 : (le != 0) = true := by simp [hle]
              clear hle
              go_enter Tryz.func38, Tryz.ntmps38
              go_wp2_with (first
            | (go_at_call 59; (with_reducible refine (CP.out _).mono ?_); rintro e w1 ⟨v, rfl, _, hb1⟩; have HB1 := Lib.hid hb1; have q0 : w1.cell? ⟨w.heap.size, 1, none⟩ = some (.int .i64 1) := (mb_box hb1).cell rfl; have q1 : w1.cell? ⟨w.heap.size, 2, none⟩ = some (.int .i64 m) := (mb_box hb1).cell rfl; have q2 : w1.cell? ⟨w.heap.size, 3, none⟩ = some (.int .i64 u) := (mb_box hb1).cell rfl; have q3 : w1.cell? ⟨w.heap.size, 4, none⟩ = some (.int .i64 g) := (mb_box hb1).cell rfl; have q4 : w1.cell? ⟨w.heap.size, 5, none⟩ = some (.int .i64 t) := (mb_box hb1).cell rfl; have HB := Lib.hid (mb_below hb1); clear hb1)
            | (go_at_call 60; (with_reducible refine (CM.out _).mono ?_); rintro e w3 ⟨rfl, hb3⟩; have B3 := Lib.hid ((mb_box HB1.out).later hb3); have r0 : w3.cell? ⟨w.heap.size, 0, none⟩ = some (.string p) := B3.out.cell rfl; have r1 : w3.cell? ⟨w.heap.size, 1, none⟩ = some (.int .i64 1) := B3.out.cell rfl; have r2 : w3.cell? ⟨w.heap.size, 2, none⟩ = some (.int .i64 m) := B3.out.cell rfl; have r3 : w3.cell? ⟨w.heap.size, 3, none⟩ = some (.int .i64 u) := B3.out.cell rfl; have r4 : w3.cell? ⟨w.heap.size, 4, none⟩ = some (.int .i64 g) := B3.out.cell rfl; have r5 : w3.cell? ⟨w.heap.size, 5, none⟩ = some (.int .i64 t) := B3.out.cell rfl; have r6 : w3.cell? ⟨w.heap.size, 6, none⟩ = some (.string l) := B3.out.cell rfl; have r7 : w3.cell? ⟨w.heap.size, 7, none⟩ = some (.slice A n c) := B3.out.cell rfl; have HB3 := Lib.hid (bthen HB.out hb3); clear hb3)
            | (go_at_call 61; (with_reducible refine (CL.out _).mono ?_); rintro e w4 ⟨rfl, hb4⟩; have s1 : w4.cell? ⟨w.heap.size, 1, none⟩ = some (.int .i64 1) := (B3.out.later hb4).cell rfl; have s7 : w4.cell? ⟨w.heap.size, 7, none⟩ = some (.slice A n c) := (B3.out.later hb4).cell rfl; have HB4 := Lib.hid (bthen HB3.out hb4); clear hb4))
              go_ret
              exact ⟨rfl, HB4.out⟩
          · have ge : (k == 1) = false := by simp [a]
            have ge2 : (k != 1) = true := by simp [a]
            clear hb
            by_cases h0 : n = 0
            · subst h0
              by_cases hle : le = 0
              · subst hle
                rw [if_pos rfl]
                rw [if_neg (fun h => absurd h.2 (by omega))]
                clear a
                go_enter Tryz.func38, Tryz.ntmps38
                go_wp2_with (first
            | (go_at_call 59; (with_reducible refine (CP.out _).mono ?_); rintro e w1 ⟨v, rfl, _, hb1⟩; have HB1 := Lib.hid hb1; have q0 : w1.cell? ⟨w.heap.size, 1, none⟩ = some (.int .i64 k) := (mb_box hb1).cell rfl; have q1 : w1.cell? ⟨w.heap.size, 2, none⟩ = some (.int .i64 m) := (mb_box hb1).cell rfl; have q2 : w1.cell? ⟨w.heap.size, 3, none⟩ = some (.int .i64 u) := (mb_box hb1).cell rfl; have q3 : w1.cell? ⟨w.heap.size, 4, none⟩ = some (.int .i64 g) := (mb_box hb1).cell rfl; have q4 : w1.cell? ⟨w.heap.size, 5, none⟩ = some (.int .i64 t) := (mb_box hb1).cell rfl; have HB := Lib.hid (mb_below hb1); clear hb1)
            | (go_at_call 60; (with_reducible refine (CM.out _).mono ?_); rintro e w3 ⟨rfl, hb3⟩; have B3 := Lib.hid ((mb_box HB1.out).later hb3); have r0 : w3.cell? ⟨w.heap.size, 0, none⟩ = some (.string p) := B3.out.cell rfl; have r1 : w3.cell? ⟨w.heap.size, 1, none⟩ = some (.int .i64 k) := B3.out.cell rfl; have r2 : w3.cell? ⟨w.heap.size, 2, none⟩ = some (.int .i64 m) := B3.out.cell rfl; have r3 : w3.cell? ⟨w.heap.size, 3, none⟩ = some (.int .i64 u) := B3.out.cell rfl; have r4 : w3.cell? ⟨w.heap.size, 4, none⟩ = some (.int .i64 g) := B3.out.cell rfl; have r5 : w3.cell? ⟨w.heap.size, 5, none⟩ = some (.int .i64 t) := B3.out.cell rfl; have r6 : w3.cell? ⟨w.heap.size, 6, none⟩ = some (.string l) := B3.out.cell rfl; have r7 : w3.cell? ⟨w.heap.size, 7, none⟩ = some (.slice A 0 c) := B3.out.cell rfl; have HB3 := Lib.hid (bthen HB.out hb3); clear hb3)
            | (go_at_call 61; (with_reducible refine (CL.out _).mono ?_); rintro e w4 ⟨rfl, hb4⟩; have s1 : w4.cell? ⟨w.heap.size, 1, none⟩ = some (.int .i64 k) := (B3.out.later hb4).cell rfl; have s7 : w4.cell? ⟨w.heap.size, 7, none⟩ = some (.slice A 0 c) := (B3.out.later hb4).cell rfl; have HB4 := Lib.hid (bthen HB3.out hb4); clear hb4))
                go_ret
                exact ⟨rfl, HB4.out⟩
              · rw [if_neg hle]
                have gl : (le == 0) = false := by simp [hle]
                have gl2 : (le != 0) = true := by simp [hle]
                clear hle
                go_enter Tryz.func38, Tryz.ntmps38
                go_wp2_with (first
            | (go_at_call 59; (with_reducible refine (CP.out _).mono ?_); rintro e w1 ⟨v, rfl, _, hb1⟩; have HB1 := Lib.hid hb1; have q0 : w1.cell? ⟨w.heap.size, 1, none⟩ = some (.int .i64 k) := (mb_box hb1).cell rfl; have q1 : w1.cell? ⟨w.heap.size, 2, none⟩ = some (.int .i64 m) := (mb_box hb1).cell rfl; have q2 : w1.cell? ⟨w.heap.size, 3, none⟩ = some (.int .i64 u) := (mb_box hb1).cell rfl; have q3 : w1.cell? ⟨w.heap.size, 4, none⟩ = some (.int .i64 g) := (mb_box hb1).cell rfl; have q4 : w1.cell? ⟨w.heap.size, 5, none⟩ = some (.int .i64 t) := (mb_box hb1).cell rfl; have HB := Lib.hid (mb_below hb1); clear hb1)
            | (go_at_call 60; (with_reducible refine (CM.out _).mono ?_); rintro e w3 ⟨rfl, hb3⟩; have B3 := Lib.hid ((mb_box HB1.out).later hb3); have r0 : w3.cell? ⟨w.heap.size, 0, none⟩ = some (.string p) := B3.out.cell rfl; have r1 : w3.cell? ⟨w.heap.size, 1, none⟩ = some (.int .i64 k) := B3.out.cell rfl; have r2 : w3.cell? ⟨w.heap.size, 2, none⟩ = some (.int .i64 m) := B3.out.cell rfl; have r3 : w3.cell? ⟨w.heap.size, 3, none⟩ = some (.int .i64 u) := B3.out.cell rfl; have r4 : w3.cell? ⟨w.heap.size, 4, none⟩ = some (.int .i64 g) := B3.out.cell rfl; have r5 : w3.cell? ⟨w.heap.size, 5, none⟩ = some (.int .i64 t) := B3.out.cell rfl; have r6 : w3.cell? ⟨w.heap.size, 6, none⟩ = some (.string l) := B3.out.cell rfl; have r7 : w3.cell? ⟨w.heap.size, 7, none⟩ = some (.slice A 0 c) := B3.out.cell rfl; have HB3 := Lib.hid (bthen HB.out hb3); clear hb3)
            | (go_at_call 61; (with_reducible refine (CL.out _).mono ?_); rintro e w4 ⟨rfl, hb4⟩; have s1 : w4.cell? ⟨w.heap.size, 1, none⟩ = some (.int .i64 k) := (B3.out.later hb4).cell rfl; have s7 : w4.cell? ⟨w.heap.size, 7, none⟩ = some (.slice A 0 c) := (B3.out.later hb4).cell rfl; have HB4 := Lib.hid (bthen HB3.out hb4); clear hb4))
                go_ret
                exact ⟨rfl, HB4.out⟩
            · have h0' : (0 : Int) < n := by omega
              by_cases hle : le = 0
              · subst hle
                rw [if_pos rfl]
                rw [if_pos ⟨a, by omega⟩]
                clear a h0
                go_enter Tryz.func38, Tryz.ntmps38
                go_wp2_with (first
            | (go_at_call 59; (with_reducible refine (CP.out _).mono ?_); rintro e w1 ⟨v, rfl, _, hb1⟩; have HB1 := Lib.hid hb1; have q0 : w1.cell? ⟨w.heap.size, 1, none⟩ = some (.int .i64 k) := (mb_box hb1).cell rfl; have q1 : w1.cell? ⟨w.heap.size, 2, none⟩ = some (.int .i64 m) := (mb_box hb1).cell rfl; have q2 : w1.cell? ⟨w.heap.size, 3, none⟩ = some (.int .i64 u) := (mb_box hb1).cell rfl; have q3 : w1.cell? ⟨w.heap.size, 4, none⟩ = some (.int .i64 g) := (mb_box hb1).cell rfl; have q4 : w1.cell? ⟨w.heap.size, 5, none⟩ = some (.int .i64 t) := (mb_box hb1).cell rfl; have HB := Lib.hid (mb_below hb1); clear hb1)
            | (go_at_call 60; (with_reducible refine (CM.out _).mono ?_); rintro e w3 ⟨rfl, hb3⟩; have B3 := Lib.hid ((mb_box HB1.out).later hb3); have r0 : w3.cell? ⟨w.heap.size, 0, none⟩ = some (.string p) := B3.out.cell rfl; have r1 : w3.cell? ⟨w.heap.size, 1, none⟩ = some (.int .i64 k) := B3.out.cell rfl; have r2 : w3.cell? ⟨w.heap.size, 2, none⟩ = some (.int .i64 m) := B3.out.cell rfl; have r3 : w3.cell? ⟨w.heap.size, 3, none⟩ = some (.int .i64 u) := B3.out.cell rfl; have r4 : w3.cell? ⟨w.heap.size, 4, none⟩ = some (.int .i64 g) := B3.out.cell rfl; have r5 : w3.cell? ⟨w.heap.size, 5, none⟩ = some (.int .i64 t) := B3.out.cell rfl; have r6 : w3.cell? ⟨w.heap.size, 6, none⟩ = some (.string l) := B3.out.cell rfl; have r7 : w3.cell? ⟨w.heap.size, 7, none⟩ = some (.slice A n c) := B3.out.cell rfl; have HB3 := Lib.hid (bthen HB.out hb3); clear hb3)
            | (go_at_call 61; (with_reducible refine (CL.out _).mono ?_); rintro e w4 ⟨rfl, hb4⟩; have s1 : w4.cell? ⟨w.heap.size, 1, none⟩ = some (.int .i64 k) := (B3.out.later hb4).cell rfl; have s7 : w4.cell? ⟨w.heap.size, 7, none⟩ = some (.slice A n c) := (B3.out.later hb4).cell rfl; have HB4 := Lib.hid (bthen HB3.out hb4); clear hb4))
                go_ret
                exact ⟨rfl, HB4.out⟩
              · rw [if_neg hle]
                have gl : (le == 0) = false := by simp [hle]
                have gl2 : (le != 0) = true := by simp [hle]
                clear hle
                go_enter Tryz.func38, Tryz.ntmps38
                go_wp2_with (first
            | (go_at_call 59; (with_reducible refine (CP.out _).mono ?_); rintro e w1 ⟨v, rfl, _, hb1⟩; have HB1 := Lib.hid hb1; have q0 : w1.cell? ⟨w.heap.size, 1, none⟩ = some (.int .i64 k) := (mb_box hb1).cell rfl; have q1 : w1.cell? ⟨w.heap.size, 2, none⟩ = some (.int .i64 m) := (mb_box hb1).cell rfl; have q2 : w1.cell? ⟨w.heap.size, 3, none⟩ = some (.int .i64 u) := (mb_box hb1).cell rfl; have q3 : w1.cell? ⟨w.heap.size, 4, none⟩ = some (.int .i64 g) := (mb_box hb1).cell rfl; have q4 : w1.cell? ⟨w.heap.size, 5, none⟩ = some (.int .i64 t) := (mb_box hb1).cell rfl; have HB := Lib.hid (mb_below hb1); clear hb1)
            | (go_at_call 60; (with_reducible refine (CM.out _).mono ?_); rintro e w3 ⟨rfl, hb3⟩; have B3 := Lib.hid ((mb_box HB1.out).later hb3); have r0 : w3.cell? ⟨w.heap.size, 0, none⟩ = some (.string p) := B3.out.cell rfl; have r1 : w3.cell? ⟨w.heap.size, 1, none⟩ = some (.int .i64 k) := B3.out.cell rfl; have r2 : w3.cell? ⟨w.heap.size, 2, none⟩ = some (.int .i64 m) := B3.out.cell rfl; have r3 : w3.cell? ⟨w.heap.size, 3, none⟩ = some (.int .i64 u) := B3.out.cell rfl; have r4 : w3.cell? ⟨w.heap.size, 4, none⟩ = some (.int .i64 g) := B3.out.cell rfl; have r5 : w3.cell? ⟨w.heap.size, 5, none⟩ = some (.int .i64 t) := B3.out.cell rfl; have r6 : w3.cell? ⟨w.heap.size, 6, none⟩ = some (.string l) := B3.out.cell rfl; have r7 : w3.cell? ⟨w.heap.size, 7, none⟩ = some (.slice A n c) := B3.out.cell rfl; have HB3 := Lib.hid (bthen HB.out hb3); clear hb3)
            | (go_at_call 61; (with_reducible refine (CL.out _).mono ?_); rintro e w4 ⟨rfl, hb4⟩; have s1 : w4.cell? ⟨w.heap.size, 1, none⟩ = some (.int .i64 k) := (B3.out.later hb4).cell rfl; have s7 : w4.cell? ⟨w.heap.size, 7, none⟩ = some (.slice A n c) := (B3.out.later hb4).cell rfl; have HB4 := Lib.hid (bthen HB3.out hb4); clear hb4))
                go_ret
                exact ⟨rfl, HB4.out⟩
    · rw [if_neg hk]
      clear cm
      by_cases k1 : k < 1
      · clear hk
        go_enter Tryz.func38, Tryz.ntmps38
        go_wp2_with (go_at_call 59; (with_reducible refine (CP.out _).mono ?_); rintro e w1 ⟨v, rfl, _, hb1⟩; have q0 : w1.cell? ⟨w.heap.size, 0, none⟩ = some (.string p) := (mbBox hb1).cell rfl; have q1 : w1.cell? ⟨w.heap.size, 1, none⟩ = some (.int .i64 k) := (mbBox hb1).cell rfl; have q2 : w1.cell? ⟨w.heap.size, 2, none⟩ = some (.int .i64 m) := (mbBox hb1).cell rfl; have q3 : w1.cell? ⟨w.heap.size, 3, none⟩ = some (.int .i64 u) := (mbBox hb1).cell rfl; have q4 : w1.cell? ⟨w.heap.size, 4, none⟩ = some (.int .i64 g) := (mbBox hb1).cell rfl; have q5 : w1.cell? ⟨w.heap.size, 5, none⟩ = some (.int .i64 t) := (mbBox hb1).cell rfl; have q6 : w1.cell? ⟨w.heap.size, 6, none⟩ = some (.string l) := (mbBox hb1).cell rfl; have q7 : w1.cell? ⟨w.heap.size, 7, none⟩ = some (.slice A n c) := (mbBox hb1).cell rfl; have HB := Lib.hid (mb_below hb1); clear hb1)
        go_ret
        exact ⟨rfl, HB.out⟩
      · have k4 : 4 < k := by omega
        clear hk
        go_enter Tryz.func38, Tryz.ntmps38
        go_wp2_with (go_at_call 59; (with_reducible refine (CP.out _).mono ?_); rintro e w1 ⟨v, rfl, _, hb1⟩; have q0 : w1.cell? ⟨w.heap.size, 0, none⟩ = some (.string p) := (mbBox hb1).cell rfl; have q1 : w1.cell? ⟨w.heap.size, 1, none⟩ = some (.int .i64 k) := (mbBox hb1).cell rfl; have q2 : w1.cell? ⟨w.heap.size, 2, none⟩ = some (.int .i64 m) := (mbBox hb1).cell rfl; have q3 : w1.cell? ⟨w.heap.size, 3, none⟩ = some (.int .i64 u) := (mbBox hb1).cell rfl; have q4 : w1.cell? ⟨w.heap.size, 4, none⟩ = some (.int .i64 g) := (mbBox hb1).cell rfl; have q5 : w1.cell? ⟨w.heap.size, 5, none⟩ = some (.int .i64 t) := (mbBox hb1).cell rfl; have q6 : w1.cell? ⟨w.heap.size, 6, none⟩ = some (.string l) := (mbBox hb1).cell rfl; have q7 : w1.cell? ⟨w.heap.size, 7, none⟩ = some (.slice A n c) := (mbBox hb1).cell rfl; have HB := Lib.hid (mb_below hb1); clear hb1)
        go_ret
        exact ⟨rfl, HB.out⟩
  · have g : (cc == 0) = false := by simp [hc]
    have g2 : (cc != 0) = true := by simp [hc]
    rw [if_neg (by simp [hc])]
    clear hc cm
    go_enter Tryz.func38, Tryz.ntmps38
    go_wp2_with (go_at_call 59; (with_reducible refine (CP.out _).mono ?_); rintro e w1 ⟨v, rfl, _, hb1⟩)
    go_ret
    exact ⟨rfl, mb_below hb1⟩
end Go.Proofs.YtjhigkkkfkahdaaGreatDoor
