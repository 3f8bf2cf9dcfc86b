/- WALKS OF LAYER 9, FOURTH PART: where a scan stands in memory; the scanner's block, end. -/
import Derived.Test.YtjofdgjcbjdhbaaGreatDoorA9b
import Derived.Test.YtjofdgjcbjdhbaaGreatDoorGx3
import Derived.Deep.RegionHeld3
import Derived.StillTailTactics
namespace Go.Proofs.YtjofdgjcbjdhbaaGreatDoor
open Go Go.RowKit
set_option maxHeartbeats 4000000
set_option maxRecDepth 100000
set_option linter.unusedVariables false
theorem ne_rec_box : (128 : TypeId) ≠ 79 := by decide
theorem ne_item_box : (46 : TypeId) ≠ 79 := by decide
theorem ne_u8_box : (5 : TypeId) ≠ 79 := by decide
theorem ne_rec_item : (128 : TypeId) ≠ 46 := by decide
theorem ne_item_u8 : (46 : TypeId) ≠ 5 := by decide
theorem ne_rec_u8 : (128 : TypeId) ≠ 5 := by decide
/-- WHERE A SCAN STANDS, in memory: the box a, rows of the call's own, what was gathered. -/
structure Gs (w : World) (B a : Nat) (bA : Option Addr) (bn bc : Nat) (xs : List Int) (al nx it : Value) (s : Ar.S) (its : List It) : Prop where
  box : BX w a 79 #[.slice bA bn bc, .int .i64 (s.at_ : Int), al, nx, it]
  ba : B ≤ a
  bytes : RB w B bA bn xs
  hal : w.ownsRow B 128 2 al s.al.length (cells2 s.al)
  hnx : w.ownsRow B 128 2 nx s.nx.length (cells2 s.nx)
  hit : w.ownsRow B 46 9 it its.length (its.flatMap c9)
  dat : ∀ x ∈ its, RB w w.heap.size x.A x.n x.xs ∧ x.n ≤ x.c ∧ x.c ≤ maxLen ∧ (0 < x.n → OBn w B 5 (.slice x.A x.n x.c) x.n x.xs)
  out : its.map (fun x => (x.mem, x.z)) = s.out
  apart : ∀ k, al.ownBlock = some k → nx.ownBlock ≠ some k
theorem owns_box {w : World} {B a size n : Nat} {e T : TypeId} {v : Value} {xs : List Value} {cs : Array Value} (h : w.ownsRow B e size v n xs) (hb : BX w a T cs) (hne : e ≠ T) {k : Nat} (hk : v.ownBlock = some k) : k ≠ a := by
  rintro rfl
  obtain ⟨c1, h1⟩ := owns_block h hk
  unfold BX at hb
  rw [h1] at hb
  cases hb
  exact hne rfl
theorem owns_lt {w : World} {B size n : Nat} {e : TypeId} {v : Value} {xs : List Value} (h : w.ownsRow B e size v n xs) {k : Nat} (hk : v.ownBlock = some k) : k < w.heap.size := (World.ownsRow.lt h k hk).2
/-- Bytes of an item, kept. -/
theorem dat_keep {w w' : World} {B : Nat} {its : List It} (h : ∀ x ∈ its, RB w w.heap.size x.A x.n x.xs ∧ x.n ≤ x.c ∧ x.c ≤ maxLen ∧ (0 < x.n → OBn w B 5 (.slice x.A x.n x.c) x.n x.xs))
    (hk : ∀ (v : Value) (n : Nat) (ys : List Value) (k : Nat), w.ownsRow B 5 1 v n ys → v.ownBlock = some k → w'.heap[k]? = w.heap[k]?) :
    ∀ x ∈ its, RB w' w'.heap.size x.A x.n x.xs ∧ x.n ≤ x.c ∧ x.c ≤ maxLen ∧ (0 < x.n → OBn w' B 5 (.slice x.A x.n x.c) x.n x.xs) := by
  intro x hx
  obtain ⟨h1, h2, h3, h4⟩ := h x hx
  rcases Nat.eq_zero_or_pos x.n with h0 | h0
  · exact ⟨⟨h1.1, fun hn => absurd hn (by omega)⟩, h2, h3, fun hn => absurd hn (by omega)⟩
  · have ho : OBn w' B 5 (.slice x.A x.n x.c) x.n x.xs := owns_keep (h4 h0) fun k hk' => hk _ _ _ k (h4 h0) hk'
    obtain ⟨A9, c9, e9, hr9, _, _⟩ := OBn.slice ho
    cases e9
    exact ⟨hr9, h2, h3, fun _ => ho⟩
section
variable {w w' : World} {B a : Nat} {bA : Option Addr} {bn bc : Nat} {xs : List Int} {al nx it : Value} {s : Ar.S} {its : List It}
/-- One cell of the box is another one. -/
theorem Gs.oth (h : Gs w B a bA bn bc xs al nx it s its) (ho : Oth a w w') {at' : Nat} (hb : BX w' a 79 #[.slice bA bn bc, .int .i64 (at' : Int), al, nx, it]) : Gs w' B a bA bn bc xs al nx it { s with at_ := at' } its where
  box := hb
  ba := h.ba
  bytes := h.bytes.keep fun p hp => World.cell?_of_block (ho.2.2.2.2 _ (by have := h.box.lt; have := h.ba; omega) (by have := h.ba; omega))
  hal := owns_keep h.hal fun k hk => ho.2.2.2.2 k (owns_lt h.hal hk) (owns_box h.hal h.box ne_rec_box hk)
  hnx := owns_keep h.hnx fun k hk => ho.2.2.2.2 k (owns_lt h.hnx hk) (owns_box h.hnx h.box ne_rec_box hk)
  hit := owns_keep h.hit fun k hk => ho.2.2.2.2 k (owns_lt h.hit hk) (owns_box h.hit h.box ne_item_box hk)
  dat := dat_keep h.dat fun v n ys k h1 hk => ho.2.2.2.2 k (owns_lt h1 hk) (owns_box h1 h.box ne_u8_box hk)
  out := h.out
  apart := h.apart
theorem Gs.below (h : Gs w B a bA bn bc xs al nx it s its) (hb : Below w.heap.size w w') : Gs w' B a bA bn bc xs al nx it s its := h.oth (Oth.ofBelow hb) (h.box.later hb)
theorem Gs.len (h : Gs w B a bA bn bc xs al nx it s its) : xs.length = bn := h.bytes.1
end
theorem box_store {w : World} {a j : Nat} {T : TypeId} {cs : Array Value} {v : Value} (h : BX w a T cs) : BX (w.setCell ⟨a, j, none⟩ v) a T (cs.setIfInBounds j v) := h.set j v
theorem block_end9 {w : World} {B a : Nat} {bA : Option Addr} {bn bc : Nat} {xs : List Int} {al nx it : Value} {s : Ar.S} {its : List It} (h : Gs w B a bA bn bc xs al nx it s its) (hbn : bn ≤ 400000) (hlt : bn < s.at_ + 512) (hat : s.at_ ≤ 900000) :
    Calls Tryz.prog 49 #[.pointer (some ⟨a, 0, none⟩)] w fun e w' => e = .returned (.tuple #[.slice none 0 0, .int .i64 4]) ∧ w = w' := by
  have b0 : w.cell? ⟨a, 0, none⟩ = some (.slice bA bn bc) := h.box.cell rfl
  have b1 : w.cell? ⟨a, 1, none⟩ = some (.int .i64 (s.at_ : Int)) := h.box.cell rfl
  have hi : (bn : Int) - (s.at_ : Int) < 512 := by omega
  clear h
  generalize s.at_ = at_ at *
  go_enter Tryz.func49, Tryz.ntmps49
  go_wp2
  go_ret2
  exact ⟨rfl, rfl⟩
theorem block_ok9 {w : World} {B a : Nat} {bA : Option Addr} {bn bc : Nat} {xs : List Int} {al nx it : Value} {s : Ar.S} {its : List It} (h : Gs w B a bA bn bc xs al nx it s its) (hbn : bn ≤ 400000) (hlt : s.at_ + 512 ≤ bn) (hbc : bn ≤ bc) (hbc2 : bc ≤ maxLen) :
    Calls Tryz.prog 49 #[.pointer (some ⟨a, 0, none⟩)] w fun e w' => ∃ A', e = .returned (.tuple #[.slice A' 512 (bc - s.at_), .int .i64 0]) ∧ RB w' B A' 512 (Ar.blk xs s) ∧ Gs w' B a bA bn bc xs al nx it { s with at_ := s.at_ + 512 } its ∧ Below B w w' := by
  unfold maxLen at hbc2
  have b0 : w.cell? ⟨a, 0, none⟩ = some (.slice bA bn bc) := h.box.cell rfl
  have b1 : w.cell? ⟨a, 1, none⟩ = some (.int .i64 (s.at_ : Int)) := h.box.cell rfl
  have f1 := h.box.free 1
  have hxl := h.len
  have H := Lib.hid h
  obtain ⟨b, o, hA, _, _⟩ := h.bytes.at0 (by omega)
  subst hA
  have hi : ¬ (bn : Int) - (s.at_ : Int) < 512 := by omega
  have ga : ∀ n, Gs ((w.setCell ⟨a, 1, none⟩ (.int .i64 ((s.at_ : Int) + 512))).drewN n) B a (some ⟨b, o, none⟩) bn bc xs al nx it { s with at_ := s.at_ + 512 } its := fun n => by
    have hb := h.box.set 1 (.int .i64 ((s.at_ : Int) + 512))
    exact Gs.below (h.oth (Oth.setCell (Oth.refl a w) 1 _) (by simpa using hb)) (below_drewN (Below.refl _ _) n)
  have gr : ∀ n, RB ((w.setCell ⟨a, 1, none⟩ (.int .i64 ((s.at_ : Int) + 512))).drewN n) B (some ⟨b, o + s.at_, none⟩) 512 (Ar.blk xs s) := fun n => by
    have h1 := ((ga n).bytes.back (k := s.at_) (by omega)).front (k := 512) (by omega)
    exact h1
  have gb : ∀ n, Below B w ((w.setCell ⟨a, 1, none⟩ (.int .i64 ((s.at_ : Int) + 512))).drewN n) := fun n => below_drewN ((Below.refl B w).setCell (p := ⟨a, 1, none⟩) h.ba _) n
  have GA := Lib.hid ga; have GR := Lib.hid gr; have GB := Lib.hid gb
  clear ga gr gb h hxl
  have hc1 : ¬ bc = s.at_ := by omega
  have hc2 : s.at_ + 512 ≤ bc := by omega
  generalize s.at_ = at_ at *
  go_enter Tryz.func49, Tryz.ntmps49
  go_upto_region 5 with (fail)
  obtain ⟨W1, hW1⟩ : ∃ W1, W1 = w.setCell ⟨a, 1, none⟩ (.int .i64 ((at_ : Int) + 512)) := ⟨_, rfl⟩
  rw [← hW1] at GA GR GB ⊢
  have d0 : W1.cell? ⟨a, 0, none⟩ = some (.slice (some ⟨b, o, none⟩) bn bc) := (GA.out 0).box.cell rfl
  have d1 : W1.cell? ⟨a, 1, none⟩ = some (.int .i64 ((at_ : Int) + 512)) := (GA.out 0).box.cell rfl
  clear hW1 b0 b1 f1
  go_quiet (fail)
  go_wp2
  go_ret2
  exact ⟨_, rfl, GR.out _, GA.out _, GB.out _⟩
end Go.Proofs.YtjofdgjcbjdhbaaGreatDoor
/- WALKS OF LAYER 9, FIFTH PART: appends of records; slices.Grow, slices.Concat over records; the scanner's end, wait, share. -/
namespace Go.Proofs.YtjofdgjcbjdhbaaGreatDoor
open Go Go.RowKit
set_option maxHeartbeats 4000000
set_option maxRecDepth 100000
set_option linter.unusedVariables false
/-- 'append(own, b...)': rows of whatever elements; where the new row lies. -/
theorem run_append_rows {P : Program} {w : World} (base : Nat) (t ty e : TypeId) (i : TypeInfo) (z : Value) (size bytes : Nat) (ht : P.underlying t = some (.slice e)) (hi : P.info? e = some i) (hz : i.zero = some z) (hsize : i.size = size) (hby : i.bytes = bytes) (hzs : z.cells.size = size) (hsz : 0 < size)
    (v : Value) (n : Nat) (xs : List Value) (hown : w.ownsRow base e size v n xs) (A : Option Addr) (m c : Nat) (ys : List Value) (hl : ys.length = m * size) (hr : 0 < m → ∃ ad, A = some ad ∧ ∀ j u, ys[j]? = some u → w.cell? (ad.add j) = some u) (h1 : ∀ u ∈ ys, u.oneCell' = true)
    (h63 : n + m ≤ maxLen) (hbytes : (n + m) * bytes ≤ 140737488355328) (hbase : base ≤ w.heap.size) :
    ∃ v' w', (Builtin.append_ #[t, t] ty #[v, .slice A m c]).run P w = .ok v' w' ∧ w'.ownsRow base e size v' (n + m) (xs ++ ys) ∧ w.grownBy w' v.ownBlock ∧ (∀ k, v'.ownBlock = some k → v.ownBlock = some k ∨ w.heap.size ≤ k) := by
  by_cases h0 : m = 0
  · subst h0
    have hy : ys = [] := List.eq_nil_of_length_eq_zero (by omega)
    subst hy
    exact ⟨v, w, run_append_none7 base t ty e i size ht hi v n _ hown A c, by simpa using hown, ⟨rfl, rfl, rfl, Nat.le_refl _, fun k _ _ => rfl⟩, fun k hk => .inl hk⟩
  · obtain ⟨ad, rfl, hn⟩ := hr (by omega)
    obtain ⟨g, cap, w', h2, h3, h4, h5, _⟩ := run_append_lies (P := P) (w := w) t ty base e i z size bytes ht hi hz hsize hby hzs hsz v n xs hown ad m c ys hl hn h1 (by omega) h63 hbytes hbase _ rfl
    refine ⟨_, w', h2, h3, h4, fun k hk => ?_⟩
    obtain rfl : g = k := by simpa [Value.ownBlock] using hk
    rcases h5 with h5 | h5
    · exact .inl h5
    · exact .inr (by omega)
theorem RL.src {w : World} {B n : Nat} {A : Option Addr} {l : List Rc.Rec} (h : RL w B A n l) (hn : 0 < n) : ∃ ad, A = some ad ∧ ∀ j u, (cells2 l)[j]? = some u → w.cell? (ad.add j) = some u := by
  obtain ⟨b, o, rfl, _, hc⟩ := h.2 hn
  refine ⟨_, rfl, fun j u hj => ?_⟩
  rw [Lib.add_plain]
  have hjl := (List.getElem?_eq_some_iff.1 hj).1
  rw [cells2_len] at hjl
  have hx : l[j / 2]? = some (l[j / 2]'(by omega)) := List.getElem?_eq_getElem _
  obtain ⟨c0, c1⟩ := hc _ _ hx
  obtain ⟨e0, e1⟩ := cells2_at hx
  rcases Nat.mod_two_eq_zero_or_one j with hm | hm
  · have hjj : j = j / 2 * 2 := by omega
    rw [hjj] at hj ⊢
    rw [e0] at hj
    cases hj
    exact c0
  · have hjj : j = j / 2 * 2 + 1 := by omega
    rw [hjj] at hj ⊢
    rw [e1] at hj
    cases hj
    rw [← Nat.add_assoc]
    exact c1
theorem cells2_one (l : List Rc.Rec) : ∀ u ∈ cells2 l, u.oneCell' = true := by
  intro u hu
  unfold cells2 at hu
  rw [List.mem_flatMap] at hu
  obtain ⟨r, _, h⟩ := hu
  exact two_cells r.1 r.2 u h
theorem owns_rl {w : World} {B : Nat} {e : TypeId} {v : Value} {l : List Rc.Rec} (h : w.ownsRow B e 2 v l.length (cells2 l)) : RLV w v l := RO.rlv (show RO w B e v l from h)
theorem grow_any9 (N : Nat) (w : World) (hN : N ≤ 1000000) :
    Calls Tryz.prog 156 #[.slice none 0 0, .int .i64 (N : Int)] w fun e w' => ∃ v, e = .returned v ∧ w'.ownsRow w.heap.size 128 2 v 0 [] ∧ Below w.heap.size w w' := by
  obtain ⟨i0, hi, hz0, hz1, hz2⟩ := info_parts info_rec
  rcases Nat.eq_zero_or_pos N with h | h
  · subst h
    go_enter Tryz.func156, Tryz.ntmps156
    go_wp2
    go_ret
    exact ⟨_, rfl, World.ownsRow_nil _ _ _ _, Below.refl _ _⟩
  · have hp : ¬ (N : Int) < 0 := by omega
    have hp2 : (0 : Int) < N := by omega
    have hrun := Lib.run_append_nil_zeros (P := Tryz.prog) w 67 3 67 128 i0 (.agg #[.string ⟨#[]⟩, .string ⟨#[]⟩]) .i64 .i64 Tryz.underlying67 Tryz.underlying3 hi hz0 N h (by rw [hz1]; omega) (by omega) (by rw [hz2]; omega)
    have hge := grownCap_ge w N 0 128
    have hcm : grownCap w N 0 128 ≤ maxLen := grownCap_le_maxLen w N 0 128 (by unfold maxLen; omega)
    generalize grownCap w N 0 128 = cap at *
    have hown : ∀ (cs : Array Value), cs.size = cap * 2 → (w.drew.alloc (.cells cs 128)).ownsRow w.heap.size 128 2 (.slice (some ⟨w.heap.size, 0, none⟩) 0 cap) 0 [] := fun cs hcs =>
      ⟨rfl, .inr ⟨w.heap.size, cap, cs, rfl, Nat.le_refl _, heap_alloc_new w.drew _, Nat.zero_le _, hcm, hcs, by simp⟩⟩
    have hsz : (Builtin.zeroCells (Value.agg #[.string ⟨#[]⟩, .string ⟨#[]⟩]).cells N ++ Builtin.zeroCells (Value.agg #[.string ⟨#[]⟩, .string ⟨#[]⟩]).cells (cap - N)).size = cap * 2 := by
      rw [Array.size_append, size_zeroCells, size_zeroCells]
      show N * 2 + (cap - N) * 2 = _
      omega
    generalize Builtin.zeroCells (Value.agg #[.string ⟨#[]⟩, .string ⟨#[]⟩]).cells N ++ Builtin.zeroCells (Value.agg #[.string ⟨#[]⟩, .string ⟨#[]⟩]).cells (cap - N) = cs at *
    have HOWN := Lib.hid (hown cs hsz)
    have HRUN := Lib.hid hrun
    have HB := Lib.hid (show Below w.heap.size w (w.drew.alloc (.cells cs 128)) from Below.alloc (below_drewN (Below.refl _ w) 1) (Nat.le_refl _) _)
    clear hown hrun hsz
    unfold maxLen at hcm
    go_enter Tryz.func156, Tryz.ntmps156
    go_wp2_with (at_builtin; refine Lib.wpList_append_run _ rfl _ _ 67 3 rfl _ _ rfl rfl _ _ HRUN.out ?_)
    go_ret
    exact ⟨_, rfl, HOWN.out, HB.out⟩
theorem concat_any9 (g : Nat) (Aa : Option Addr) (na ca : Nat) (An : Option Addr) (nn cn : Nat) (a b : List Rc.Rec) (w : World) (hg : g < w.heap.size) (k0 : w.cell? ⟨g, 0, none⟩ = some (.slice Aa na ca)) (k1 : w.cell? ⟨g, 1, none⟩ = some (.slice An nn cn)) (ha : RL w w.heap.size Aa na a) (hb2 : RL w w.heap.size An nn b) (hna : na ≤ 100000) (hnn : nn ≤ 100000) :
    Calls Tryz.prog 136 #[.slice (some ⟨g, 0, none⟩) 2 2] w fun e w' => ∃ v, e = .returned v ∧ RO w' w.heap.size 128 v (a ++ b) ∧ Below w.heap.size w w' := by
  obtain ⟨i0, hi, hz0, hz1, hz2⟩ := info_parts info_rec
  have hal := ha.1
  have hbl := hb2.1
  have gr := grow_any9 (na + nn) w (by omega)
  rw [Int.natCast_add] at gr
  have GR := Lib.hid gr
  clear gr
  go_enter Tryz.func136, Tryz.ntmps136
  go_wp2
  go_loop [3, 11] (fun sz i => (i = .int .i64 0 ∧ sz = .int .i64 0) ∨ (i = .int .i64 1 ∧ sz = .int .i64 (na : Int)) ∨ (i = .int .i64 2 ∧ sz = .int .i64 ((na : Int) + (nn : Int)))) (fun _ i => 2 - (intOf i).toNat)
  case atStart => exact .inl ⟨rfl, rfl⟩
  case round =>
    rcases hrel with ⟨rfl, rfl⟩ | ⟨rfl, rfl⟩ | ⟨rfl, rfl⟩
    · go_wp2
      go_round
      case rel => exact .inr (.inl ⟨rfl, rfl⟩)
      case measure => simp [intOf]
    · go_wp2
      go_round
      case rel => exact .inr (.inr ⟨rfl, rfl⟩)
      case measure => simp [intOf]
    · go_wp2_with (go_at_call 156; (with_reducible refine (GR.out).mono ?_); rintro e w2 ⟨v2, rfl, ho2, hb3⟩; have HO2 := Lib.hid ho2; have HB2 := Lib.hid hb3; clear ho2 hb3)
      go_loopw [6, 27] (fun v i wr => Hid (Below w.heap.size w wr) ∧ ((i = .int .i64 0 ∧ Hid (wr.ownsRow w.heap.size 128 2 v 0 [])) ∨ (i = .int .i64 1 ∧ Hid (wr.ownsRow w.heap.size 128 2 v na (cells2 a))) ∨ (i = .int .i64 2 ∧ Hid (wr.ownsRow w.heap.size 128 2 v (na + nn) (cells2 a ++ cells2 b))))) (fun _ i _ => 2 - (intOf i).toNat)
      case atStart => exact ⟨HB2.out, .inl ⟨rfl, HO2.out⟩⟩
      case round =>
        obtain ⟨HB, hrel⟩ := hrel
        have hb : Below w.heap.size w wr := HB.out
        have k0' : wr.cell? ⟨g, 0, none⟩ = some (.slice Aa na ca) := (hb.cell (p := ⟨g, 0, none⟩) hg).trans k0
        have k1' : wr.cell? ⟨g, 1, none⟩ = some (.slice An nn cn) := (hb.cell (p := ⟨g, 1, none⟩) hg).trans k1
        rcases hrel with ⟨rfl, HO⟩ | ⟨rfl, HO⟩ | ⟨rfl, HO⟩
        · go_wp2_with (at_builtin; obtain ⟨v3, w3, hrun, hown3, hgrow3, _⟩ := run_append_rows (P := Tryz.prog) w.heap.size 67 67 128 i0 (.agg #[.string ⟨#[]⟩, .string ⟨#[]⟩]) 2 32 Tryz.underlying67 hi hz0 hz1 hz2 rfl (by decide) _ (0) _ HO.out Aa na ca (cells2 a) (by rw [cells2_len, hal]) (fun hn => RL.src (ha.below hb) hn) (cells2_one a) (by unfold maxLen; omega) (by omega) hb.size; have HO3 := Lib.hid hown3; have HB3 := Lib.hid (below_app6 hb (Nat.le_refl _) HO.out hgrow3); refine Lib.wpList_append_run _ rfl _ _ 67 67 rfl _ _ rfl rfl _ _ hrun ?_; clear hrun hown3 hgrow3)
          go_roundw
          case rel => exact ⟨HB3.out, .inr (.inl ⟨rfl, by show World.ownsRow _ _ _ _ _ _ _; have h := HO3.out; rwa [Nat.zero_add, List.nil_append] at h⟩)⟩
          case measure => simp [intOf]
        · go_wp2_with (at_builtin; obtain ⟨v3, w3, hrun, hown3, hgrow3, _⟩ := run_append_rows (P := Tryz.prog) w.heap.size 67 67 128 i0 (.agg #[.string ⟨#[]⟩, .string ⟨#[]⟩]) 2 32 Tryz.underlying67 hi hz0 hz1 hz2 rfl (by decide) _ (na) _ HO.out An nn cn (cells2 b) (by rw [cells2_len, hbl]) (fun hn => RL.src (hb2.below hb) hn) (cells2_one b) (by unfold maxLen; omega) (by omega) hb.size; have HO3 := Lib.hid hown3; have HB3 := Lib.hid (below_app6 hb (Nat.le_refl _) HO.out hgrow3); refine Lib.wpList_append_run _ rfl _ _ 67 67 rfl _ _ rfl rfl _ _ hrun ?_; clear hrun hown3 hgrow3)
          go_roundw
          case rel => exact ⟨HB3.out, .inr (.inr ⟨rfl, HO3.out⟩)⟩
          case measure => simp [intOf]
        · go_wp2
          go_ret
          refine ⟨_, rfl, ?_, hb⟩
          unfold RO
          rw [cells2_app, List.length_append, hal, hbl]
          exact HO.out
end Go.Proofs.YtjofdgjcbjdhbaaGreatDoor
