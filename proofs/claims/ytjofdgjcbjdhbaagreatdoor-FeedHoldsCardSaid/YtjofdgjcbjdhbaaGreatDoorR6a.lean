/- WALKS OF LAYER 6, FIRST PART: the library's functions on texts: IndexRune, IndexAny, ContainsAny at the three signs that no key may have. -/
import Derived.Test.YtjofdgjcbjdhbaaGreatDoorChecked
import Derived.Test.YtjofdgjcbjdhbaaGreatDoorN6c
import Derived.Test.YtjofdgjcbjdhbaaGreatDoorShelf
import Derived.Laws.RangeString
import Derived.Deep.LoopGhost
import Derived.Laws.Strings3
import Derived.Laws.Runes
import Derived.Lib.IndexBytes
import Derived.Lib.OthersKept
namespace Go.Proofs.YtjofdgjcbjdhbaaGreatDoor
open Go Go.RowKit
set_option linter.unusedVariables false
set_option maxHeartbeats 1000000
theorem below_iter {w : World} (s : ByteArray) (i : Nat) : Below w.heap.size w (w.iter s i) := (Below.refl _ _).alloc (Nat.le_refl _) _
theorem run_next_high {P : Program} (w : World) (s : ByteArray) (pos : Nat) (ty : TypeId) (h : pos < s.size) :
    (Instr.next (.pointer (some ⟨w.heap.size, 0, none⟩)) true ty).run P (w.iter s pos) =
      .ok (.tuple #[.bool true, .int .i64 pos, .int .i32 (Utf8.decode s pos).1]) (w.iter s (pos + (Utf8.decode s pos).2)) := by
  simp only [Instr.next, getObj, setObj, Sem.run_bind, Sem.run, World.iter_heap, Result.andThen, h, if_true, World.iter_set]
  simp [goInt]
set_option maxRecDepth 100000 in
theorem ixrune_err (s : ByteArray) (hs : s.size = 3) (ha : ∀ j (h : j < s.size), s[j].toNat < 128) (w : World) :
    Calls Tryz.prog 200 #[.string s, .int .i32 65533] w fun e w' => e = .returned (.int .i64 (-1)) ∧ Below w.heap.size w w' := by
  have HA := Lib.hid ha; clear ha
  have hs' : (s.size : Int) = 3 := by omega
  go_enter Tryz.func200, Tryz.ntmps200
  go_wp2
  go_loopg [5, 6] 3 (fun g _ _ wx => ∃ i : Nat, i + g = 3 ∧ wx = w.iter s i)
  case atStart => exact ⟨0, by omega, rfl⟩
  case round =>
    obtain ⟨i, hig, rfl⟩ := hrel
    cases gk with
    | zero =>
      obtain rfl : i = 3 := by omega
      have hnx := fun ty => run_next_end (P := Tryz.prog) w s 3 ty (by omega)
      go_wp2
      go_ret
      exact ⟨rfl, below_iter _ _⟩
    | succ g =>
      have hi : i < s.size := by omega
      have hx := HA.out i hi
      have hnx := fun ty => run_next_ascii (P := Tryz.prog) w s i ty hi hx
      have g1 : ((s[i].toNat : Int) == 65533) = false := by rw [beq_eq_false_iff_ne]; omega
      go_wp2
      go_roundg g
      case measure => omega
      case rel => exact ⟨i + 1, by omega, rfl⟩
theorem index_none {l : Rc.Bs} {c : UInt8} (h : ∀ x ∈ l, x ≠ c) : Lib.indexByte l c = -1 := by
  induction l with
  | nil => rfl
  | cons x l ih =>
    have := ih fun y hy => h y (List.mem_cons_of_mem _ hy)
    have hx := h x (List.mem_cons_self ..)
    unfold Lib.indexByte
    simp [this, hx]
theorem str_byte6 (s : ByteArray) (c : Int) (w : World) : Calls Tryz.prog 117 #[.string s, .int .u8 c] w fun e w' => e = .returned (.int .i64 (Lib.indexByte s.data.toList c.toNat.toUInt8)) ∧ w = w' :=
  (Tryz.strings_IndexByte s c w).mono fun _ _ h => ⟨h.1, h.2.symm⟩
theorem ext_high {s : ByteArray} (ha : ∀ j (h : j < s.size), s[j].toNat < 128) (a b : Nat) {c : UInt8} (hc : 128 ≤ c.toNat) : Lib.indexByte (s.extract a b).data.toList c = -1 := by
  apply index_none
  intro x hx e
  subst e
  rw [Lib.extract_data] at hx
  have hx2 := List.mem_of_mem_drop (List.mem_of_mem_take hx)
  obtain ⟨i, hi, rfl⟩ := List.mem_iff_getElem.1 hx2
  have := ha i hi
  have e2 : s[i]'hi = s.data.toList[i] := rfl
  rw [e2] at this
  omega
set_option maxRecDepth 100000 in
theorem ixrune_far (s : ByteArray) (hs : s.size = 3) (ha : ∀ j (h : j < s.size), s[j].toNat < 128) (r : Nat) (h1 : 128 ≤ r) (hv : Lib.validRune r = true) (hr : r ≤ 1114111) (hne : r ≠ 65533) (w : World) :
    Calls Tryz.prog 200 #[.string s, .int .i32 r] w fun e w' => e = .returned (.int .i64 (-1)) ∧ Below w.heap.size w w' := by
  obtain ⟨e2, e4, eall⟩ := Rc.enc_high h1
  have g1 : ¬ (r : Int) < 128 := by omega
  have g2 : ((r : Int) == 65533) = false := by rw [beq_eq_false_iff_ne]; omega
  have hs' : (s.size : Int) = 3 := by omega
  have hcv : ∀ w, (convert 21 9 (.int .i32 r)).run Tryz.prog w = .ok (.string (Utf8.encode r)) w := fun w => run_convert_int_string w _ _ _ _ (by kernel_rfl) Tryz.underlying9
  generalize Utf8.encode (r : Int) = t at *
  have HA := Lib.hid ha; have HE := Lib.hid eall; clear ha eall
  have h3 : t.size = 4 ∨ t.size = 2 ∨ t.size = 3 := by omega
  rcases h3 with h3 | h3 | h3
  · have h3' : (t.size : Int) = 4 := by omega
    go_enter Tryz.func200, Tryz.ntmps200
    go_wp2_with (go_at_call 213; refine (Tryz.utf8_ValidRune _ _).mono ?_; rintro e w' ⟨rfl, rfl⟩)
    go_step3
    go_wp2
    go_loop [9] (fun i => i = .int .i64 3) (fun i => 0)
    case atStart => rfl
    case round =>
      obtain rfl := hrel
      go_wp2
      go_ret
      exact ⟨rfl, Below.refl _ _⟩
  · have h3' : (t.size : Int) = 2 := by omega
    have hc := HE.out 1 (by omega)
    have hd := HA.out 1 (by omega)
    have hx : Lib.indexByte (s.extract 2 3).data.toList t[1] = -1 := ext_high HA.out 2 3 hc
    have kx : ∀ w, Calls Tryz.prog 117 #[.string (s.extract 2 3), .int .u8 t[1].toNat] w fun e w' => e = .returned (.int .i64 (-1)) ∧ w = w' := fun w => by
      have := str_byte6 (s.extract 2 3) t[1].toNat w
      rw [show Lib.indexByte (s.extract 2 3).data.toList ((t[1].toNat : Int).toNat.toUInt8) = -1 by simpa using hx] at this
      exact this
    have kx := Lib.hid kx
    have g5 : ((s[1].toNat : Int) != (t[1].toNat : Int)) = true := by simp; omega
    clear hx
    have s1 : IntKind.i64.wrap 2 = 2 := rfl
    have s2 : (2 : Int).toNat = 2 := rfl
    go_enter Tryz.func200, Tryz.ntmps200
    go_wp2_with (go_at_call 213; refine (Tryz.utf8_ValidRune _ _).mono ?_; rintro e w' ⟨rfl, rfl⟩)
    go_step3
    go_wp2
    go_loop [9] (fun i => i = .int .i64 1) (fun i => 0)
    case atStart => rfl
    case round =>
      obtain rfl := hrel
      go_wp2
      go_step3
      go_wp2
      go_quiet (fail)
      go_wp2
      go_quiet ((go_at_call 117; exact quiet_add_left (kx.out _)))
      go_wp2
      simp only [Exit.noGoto_ret, go_sem]
      simp +zetaDelta only [Exit.noGoto_ret, go_sem]
      go_ret
      exact ⟨rfl, below_drewN (Below.refl _ _) _⟩
  · have h3' : (t.size : Int) = 3 := by omega
    have hc := HE.out 2 (by omega)
    have hd := HA.out 2 (by omega)
    have kx : ∀ w, Calls Tryz.prog 117 #[.string ByteArray.empty, .int .u8 t[2].toNat] w fun e w' => e = .returned (.int .i64 (-1)) ∧ w = w' := fun w => str_byte6 _ _ w
    have kx := Lib.hid kx
    have g5 : ((s[2].toNat : Int) != (t[2].toNat : Int)) = true := by simp; omega
    have s1 : IntKind.i64.wrap 3 = 3 := rfl
    have s2 : (3 : Int).toNat = 3 := rfl
    go_enter Tryz.func200, Tryz.ntmps200
    go_wp2_with (go_at_call 213; refine (Tryz.utf8_ValidRune _ _).mono ?_; rintro e w' ⟨rfl, rfl⟩)
    go_step3
    go_wp2
    go_loop [9] (fun i => i = .int .i64 2) (fun i => 0)
    case atStart => rfl
    case round =>
      obtain rfl := hrel
      go_wp2
      go_step3
      go_wp2
      go_quiet (fail)
      go_wp2
      go_quiet ((go_at_call 117; exact quiet_add_left (kx.out _)))
      go_wp2
      simp only [Exit.noGoto_ret, go_sem]
      simp +zetaDelta only [Exit.noGoto_ret, go_sem]
      go_ret
      exact ⟨rfl, below_drewN (Below.refl _ _) _⟩
theorem badS_size : Rc.badS.size = 3 := rfl
theorem badS_low : ∀ j (h : j < Rc.badS.size), Rc.badS[j].toNat < 128 := by
  unfold Rc.badS
  intro j h
  have hj : j < 3 := h
  have : j = 0 ∨ j = 1 ∨ j = 2 := by omega
  rcases this with rfl | rfl | rfl
  · exact (by decide : (61 : UInt8).toNat < 128)
  · exact (by decide : (10 : UInt8).toNat < 128)
  · exact (by decide : (0 : UInt8).toNat < 128)
theorem ixrune_high (r : Nat) (h1 : 128 ≤ r) (hv : Lib.validRune r = true) (hr : r ≤ 1114111) (w : World) :
    Calls Tryz.prog 200 #[.string Rc.badS, .int .i32 r] w fun e w' => e = .returned (.int .i64 (-1)) ∧ Below w.heap.size w w' := by
  by_cases h : r = 65533
  · subst h; exact ixrune_err _ badS_size badS_low w
  · exact ixrune_far _ badS_size badS_low r h1 hv hr h w
theorem bad_nat (c : UInt8) : Rc.bad c = false → c.toNat ≠ 61 ∧ c.toNat ≠ 10 ∧ c.toNat ≠ 0 := by
  intro h
  have e : ∀ d : UInt8, c ≠ d → c.toNat ≠ d.toNat := fun d hd he => hd (UInt8.toNat_inj.1 he)
  unfold Rc.bad at h
  simp at h
  exact ⟨e 61 h.1.1, e 10 h.1.2, e 0 h.2⟩
/-- A text's rune at a place, looked for among the three signs. -/
theorem ixrune_at (s : ByteArray) (i : Nat) (hi : i < s.size) (W : World) :
    Calls Tryz.prog 200 #[.string Rc.badS, .int .i32 (Utf8.decode s i).1] W fun e w' => ∃ r : Int, e = .returned (.int .i64 r) ∧ decide (0 ≤ r) = Rc.bad s[i] ∧ Below W.heap.size W w' := by
  by_cases h : s[i].toNat < 128
  · rw [decode_ascii s i hi h]
    refine (Tryz.strings_IndexRune_ascii Rc.badS s[i].toNat W (by omega) (by omega)).mono ?_
    rintro e w' ⟨rfl, rfl⟩
    refine ⟨_, rfl, ?_, Below.refl _ _⟩
    rw [show ((s[i].toNat : Int).toNat.toUInt8) = s[i] by simp, ← Lib.contains_iff_indexByte, Rc.bad_contains]
  · have hh := Rc.high s i hi (by rw [Rc.get_eq s i hi]; omega)
    refine (ixrune_high _ hh.lo (Rc.high_valid hh) hh.hi W).mono ?_
    rintro e w' ⟨rfl, hb⟩
    refine ⟨_, rfl, ?_, hb⟩
    rw [Rc.bad_high (by omega)]
    rfl
/-- A step of the range over a text's runes. -/
theorem rune_step (s : ByteArray) (i : Nat) (hi : i < s.size) (hb : Rc.bad s[i] = false) (hp : ∀ j (h : j < s.size), j < i → Rc.bad s[j] = false) :
    1 ≤ (Utf8.decode s i).2 ∧ i + (Utf8.decode s i).2 ≤ s.size ∧ ∀ j (h : j < s.size), j < i + (Utf8.decode s i).2 → Rc.bad s[j] = false := by
  by_cases h : s[i].toNat < 128
  · rw [decode_ascii s i hi h]
    refine ⟨Nat.le_refl _, hi, fun j hj hlt => ?_⟩
    have hlt' : j < i + 1 := hlt
    by_cases e : j = i
    · subst e; exact hb
    · exact hp j hj (by omega)
  · have hh := Rc.high s i hi (by rw [Rc.get_eq s i hi]; omega)
    refine ⟨hh.pos, hh.le, fun j hj hlt => ?_⟩
    by_cases e : j < i
    · exact hp j hj e
    · have := hh.all (j - i) (by omega)
      rw [show i + (j - i) = j by omega, Rc.get_eq s j hj] at this
      exact Rc.bad_high this
theorem any_of (s : ByteArray) (i : Nat) (hi : i < s.size) (hb : Rc.bad s[i] = true) : s.data.toList.any Rc.bad = true := by
  rw [List.any_eq_true]
  exact ⟨s[i], List.getElem_mem (l := s.data.toList) (h := hi), hb⟩
theorem any_none (s : ByteArray) (h : ∀ j (h : j < s.size), Rc.bad s[j] = false) : s.data.toList.any Rc.bad = false := by
  rw [List.any_eq_false]
  intro x hx
  obtain ⟨j, hj, rfl⟩ := List.mem_iff_getElem.1 hx
  have := h j hj
  have e : s.data.toList[j] = s[j]'hj := rfl
  rw [e, this]
  exact Bool.false_ne_true
theorem iter_kept {w wx : World} {s : ByteArray} {i : Nat} (hk : wx.heap[w.heap.size]? = some (.stringIter s i)) (hb : Below w.heap.size w wx) (z : Nat) :
    (Go.World.iterAt wx w.heap.size s (i + z)).heap[w.heap.size]? = some (.stringIter s (i + z)) ∧ Below w.heap.size w (Go.World.iterAt wx w.heap.size s (i + z)) := by
  refine ⟨Lib.iterAt_heap _ _ _ _ _ hk, hb.os, hb.tape, hb.output, ?_, fun k hlt => ?_⟩
  · have := hb.size
    simpa [World.iterAt] using this
  · rw [← hb.block k hlt]
    simp [World.iterAt, show w.heap.size ≠ k by omega]
set_option maxRecDepth 100000 in
theorem ixany_short (s : ByteArray) (h8 : s.size ≤ 8) (w : World) :
    Calls Tryz.prog 186 #[.string s, .string Rc.badS] w fun e w' => ∃ r : Int, e = .returned (.int .i64 r) ∧ decide (0 ≤ r) = s.data.toList.any Rc.bad ∧ Below w.heap.size w w' := by
  have hemp : Rc.badS.toList.isEmpty = false := by rw [Lib.toList_data]; rfl
  have hn1 : (Rc.badS.size : Int) = 3 := rfl
  have h8z : decide ((8 : Int) < (s.size : Int)) = false := decide_eq_false (by omega)
  have K := Lib.hid (ixrune_at s)
  generalize hB : Rc.badS = c at *
  clear hB
  go_enter Tryz.func186, Tryz.ntmps186
  go_wp2_with (go_at_call 201; refine (Tryz.strings_shouldUseASCIISet _ _).mono ?_; rintro e w' ⟨rfl, hw⟩; rw [hw, h8z])
  go_loopg [9, 10] s.size (fun g _ _ wx => ∃ i : Nat, i + g = s.size ∧ wx.heap[w.heap.size]? = some (.stringIter s i) ∧ Below w.heap.size w wx ∧ Hid (∀ j (h : j < s.size), j < i → Rc.bad s[j] = false))
  case atStart => exact ⟨0, by omega, World.iter_heap _ _ _, below_iter _ _, fun j _ hj => absurd hj (Nat.not_lt_zero _)⟩
  case round =>
    obtain ⟨i, hig, hk, hb, hno⟩ := hrel
    cases gk with
    | zero =>
      obtain rfl : i = s.size := by omega
      have hnx := fun ty => Lib.run_next_end_at (P := Tryz.prog) _ _ s s.size ty hk (by omega)
      go_wp2
      go_ret
      exact ⟨_, rfl, by rw [any_none s fun j hj => hno j hj hj]; rfl, hb⟩
    | succ g =>
      have hi : i < s.size := by omega
      have hnx := fun ty => Lib.run_next_any_at (P := Tryz.prog) _ _ s i ty hk hi
      have ks := K.out i hi
      have hst := Lib.hid (rune_step s i hi)
      generalize hv : (Utf8.decode s i).1 = r at *
      generalize hz : (Utf8.decode s i).2 = z at *
      clear hv hz
      have hkw := iter_kept hk hb z
      generalize hW : Go.World.iterAt _ _ _ _ = W2 at hnx hkw
      obtain ⟨hk2, hb2⟩ := hkw
      clear hW hk hb
      cases hbad : Rc.bad s[i]
      · rw [hbad] at ks
        have HB := Lib.hid hbad; clear hbad
        go_wp2_with (go_at_call 200; (with_reducible refine (ks _).mono ?_); rintro e w' ⟨q, rfl, hq, hbq⟩; have hq := of_decide_eq_false hq)
        obtain ⟨z1, z2, z3⟩ := hst.out HB.out hno
        go_roundg (s.size - (i + z))
        case measure => omega
        case rel => exact ⟨i + z, by omega, (hbq.block _ (by have := (Array.getElem?_eq_some_iff.1 hk2).1; omega)).trans hk2, hb2.trans (hbq.mono hb2.size), z3⟩
      · rw [hbad] at ks
        have HB := Lib.hid hbad; clear hbad
        go_wp2_with (go_at_call 200; (with_reducible refine (ks _).mono ?_); rintro e w' ⟨q, rfl, hq, hbq⟩; have hq := of_decide_eq_true hq)
        go_ret
        exact ⟨_, rfl, by rw [any_of s i hi HB.out]; simp, hb2.trans (hbq.mono hb2.size)⟩
theorem info_set : (Tryz.prog.info? 232).map (fun i => (i.zero, i.size)) = some (some (.agg (Array.replicate 256 (.bool false))), 256) := by kernel_rfl
theorem badS_ascii : ∀ (j : Nat) b, Rc.badS.data.toList[j]? = some b → b.toNat < 128 := by
  intro j b h
  obtain ⟨hj, e⟩ := List.getElem?_eq_some_iff.1 h
  have := badS_low j hj
  rw [← e]
  exact this
theorem ixany_any (s : ByteArray) (hs : s.size ≤ 1000000) (w : World) :
    Calls Tryz.prog 186 #[.string s, .string Rc.badS] w fun e w' => ∃ r : Int, e = .returned (.int .i64 r) ∧ decide (0 ≤ r) = s.data.toList.any Rc.bad ∧ Below w.heap.size w w' := by
  by_cases h : s.size ≤ 8
  · exact ixany_short s h w
  · refine (Tryz.strings_IndexAny_long (zero_of_info info_set).1 s Rc.badS w (by rw [badS_size]; omega) (by omega) (by omega) (by rw [badS_size]; omega) badS_ascii).mono ?_
    rintro e w' ⟨rfl, rfl⟩
    exact ⟨_, rfl, Rc.indexAny_neg _, ((Below.refl _ _).alloc (Nat.le_refl _) _).alloc (by simp) _⟩
theorem hasany_any (s : ByteArray) (hs : s.size ≤ 1000000) (w : World) :
    Calls Tryz.prog 176 #[.string s, .string ⟨#[61, 10, 0]⟩] w fun e w' => e = .returned (.bool (s.data.toList.any Rc.bad)) ∧ Below w.heap.size w w' := by
  have K : Calls Tryz.prog 186 #[.string s, .string ⟨#[61, 10, 0]⟩] w fun e w' => ∃ r : Int, e = .returned (.int .i64 r) ∧ decide (0 ≤ r) = s.data.toList.any Rc.bad ∧ Below w.heap.size w w' := ixany_any s hs w
  have K := Lib.hid K
  generalize s.data.toList.any Rc.bad = b at *
  go_enter Tryz.func176, Tryz.ntmps176
  go_wp2_with (go_at_call 186; (with_reducible refine (K.out).mono ?_); rintro e w' ⟨q, rfl, hq, hbq⟩)
  go_ret
  exact ⟨rfl, hbq⟩
end Go.Proofs.YtjofdgjcbjdhbaaGreatDoor
