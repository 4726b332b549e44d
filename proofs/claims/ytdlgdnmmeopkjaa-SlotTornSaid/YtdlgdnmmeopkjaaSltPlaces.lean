/-
  The places of a root's fields: lists of them (places at three types), put one behind the other (slices.Concat, slices.Grow).
-/
import Derived.Test.YtdlgdnmmeopkjaaSltMay
import Derived.Test.YtdlgdnmmeopkjaaMoves
import Derived.Deep.AppendLies
import Derived.Lib.AppendZeros
import Derived.Handy
namespace Go.Proofs.Ytdlgdnmmeopkjaa.Slt
open Go.RowKit RowLaw Crc Fld
set_option maxRecDepth 100000

/-- a place: the type of its address, the block and the cell, the width -/
structure Pl where
  t : TypeId
  p : Nat
  k : Nat
  wd : Nat
def plCells (x : Pl) : List Value := [.iface x.t (.agg #[.pointer (some ⟨x.p, x.k, none⟩)]), .int .i64 (x.wd : Int)]
def plRow (l : List Pl) : List Value := l.flatMap plCells
theorem plRow_snoc (l : List Pl) (x : Pl) : plRow (l ++ [x]) = plRow l ++ plCells x := by simp [plRow]
theorem plRow_app (l m : List Pl) : plRow (l ++ m) = plRow l ++ plRow m := by simp [plRow]
theorem plRow_length : ∀ l : List Pl, (plRow l).length = l.length * 2
  | [] => rfl
  | x :: l => by
    have : plRow (x :: l) = plCells x ++ plRow l := rfl
    rw [this, List.length_append, plRow_length l]
    simp [plCells]
    omega
theorem plRow_one : ∀ (l : List Pl) (v : Value), v ∈ plRow l → v.oneCell' = true := fun l v hv => by
  unfold plRow at hv
  rw [List.mem_flatMap] at hv
  obtain ⟨x, _, hx⟩ := hv
  simp only [plCells, List.mem_cons, List.not_mem_nil, or_false] at hx
  rcases hx with rfl | rfl <;> rfl
theorem plRow_at : ∀ (l : List Pl) (i : Nat) (hi : i < l.length), (plRow l)[i * 2]? = some (.iface l[i].t (.agg #[.pointer (some ⟨l[i].p, l[i].k, none⟩)])) ∧ (plRow l)[i * 2 + 1]? = some (.int .i64 (l[i].wd : Int))
  | x :: l, 0, _ => ⟨rfl, rfl⟩
  | x :: l, i + 1, hi => by
    have e : plRow (x :: l) = .iface x.t (.agg #[.pointer (some ⟨x.p, x.k, none⟩)]) :: .int .i64 (x.wd : Int) :: plRow l := rfl
    have h := plRow_at l i (by simpa using hi)
    rw [e, show (i + 1) * 2 = i * 2 + 1 + 1 from by omega, show i * 2 + 1 + 1 + 1 = (i * 2 + 1) + 1 + 1 from rfl]
    exact h
theorem infoPl : (Try.prog.info? 69).map (fun i => (i.zero, i.size, i.bytes)) = some (some (.agg #[.nilIface, .int .i64 0]), 2, 24) := by kernel_rfl
theorem sizePl : (Try.prog.info? 69).map (·.size) = some 2 := by kernel_rfl
theorem new_cells (W : World) (cs : List Value) (T : TypeId) : ∀ j u, cs[j]? = some u → (W.alloc (.cells cs.toArray T)).cell? (Addr.add ⟨W.heap.size, 0, none⟩ j) = some u := fun j u hj => by
  rw [Addr.add_mid, Nat.zero_add, cell_of_row _ W.heap.size j _ _ _ (heap_alloc_new W _)]
  simpa using hj
theorem below_own {W W1 : World} {base : Nat} {e : TypeId} {size n : Nat} {v : Value} {xs : List Value} (h : W.ownsRow base e size v n xs) (hg : W.grownBy W1 v.ownBlock) (hb : base ≤ W.heap.size) : Below base W W1 :=
  ⟨hg.os, hg.tape, hg.output, hg.size, fun k hk => hg.block k (by omega) (fun e2 => by
    rcases h.2 with ⟨rfl, _⟩ | ⟨g, cap, cur, rfl, h5, _⟩
    · cases e2
    · cases e2; have hk' : g < base := hk; omega)⟩
/-- a slice of the call's own that holds these places -/
def OwnP (base : Nat) (l : List Pl) (v : Value) (W : World) : Prop := W.ownsRow base 69 2 v l.length (plRow l)
theorem OwnP.nil (base : Nat) (W : World) : OwnP base [] (.slice none 0 0) W := World.ownsRow_nil _ _ _ _
theorem OwnP.mono {base b : Nat} {l : List Pl} {v : Value} {W : World} (h : OwnP base l v W) (hb : b ≤ base) : OwnP b l v W := by
  refine ⟨h.1, ?_⟩
  rcases h.2 with hn | ⟨g, cap, cur, rfl, h5, rest⟩
  · exact .inl hn
  · exact .inr ⟨g, cap, cur, rfl, Nat.le_trans hb h5, rest⟩
theorem OwnP.below {base : Nat} {l : List Pl} {v : Value} {W W' : World} (h : OwnP base l v W) (hb : Below W.heap.size W W') : OwnP base l v W' := by
  refine ⟨h.1, ?_⟩
  rcases h.2 with hn | ⟨g, cap, cur, rfl, h5, h6, rest⟩
  · exact .inl hn
  · exact .inr ⟨g, cap, cur, rfl, h5, (hb.block g (Array.getElem?_eq_some_iff.1 h6).1).trans h6, rest⟩
/-- a slice that reads as these places (there is at least one) -/
def RowP (l : List Pl) (v : Value) (W : World) : Prop := ∃ g cap, v = .slice (some ⟨g, 0, none⟩) l.length cap ∧ g < W.heap.size ∧ ∀ j u, (plRow l)[j]? = some u → W.cell? ⟨g, j, none⟩ = some u
theorem OwnP.row {base : Nat} {l : List Pl} {v : Value} {W : World} (h : OwnP base l v W) (hl : l ≠ []) : RowP l v W := by
  rcases h.2 with ⟨rfl, h0⟩ | ⟨g, cap, cur, rfl, h5, h6, h7, h8, h9, h10⟩
  · exact absurd (List.eq_nil_of_length_eq_zero h0) hl
  · refine ⟨g, cap, rfl, (Array.getElem?_eq_some_iff.1 h6).1, fun j u hj => ?_⟩
    have := World.ownsRow.cells h (g := g) rfl j u hj
    rw [Addr.add_mid, Nat.zero_add] at this
    exact this
theorem RowP.below {l : List Pl} {v : Value} {W W' : World} (h : RowP l v W) (hb : Below W.heap.size W W') : RowP l v W' := by
  obtain ⟨g, cap, rfl, hg, hc⟩ := h
  exact ⟨g, cap, rfl, Nat.lt_of_lt_of_le hg hb.size, fun j u hj => (hb.cell (p := ⟨g, j, none⟩) hg).trans (hc j u hj)⟩

/-- the places of n fields of one width, from cell k on -/
def pls (t : TypeId) (p k n wd : Nat) : List Pl := (List.range n).map fun j => ⟨t, p, k + j, wd⟩
theorem pls_succ (t : TypeId) (p k n wd : Nat) : pls t p k (n + 1) wd = pls t p k n wd ++ [⟨t, p, k + n, wd⟩] := by simp [pls, List.range_succ]
theorem pls_length (t : TypeId) (p k n wd : Nat) : (pls t p k n wd).length = n := by simp [pls]
theorem plCells_one (x : Pl) : ∀ u ∈ plCells x, u.oneCell' = true := fun u hu => plRow_one [x] u (by simpa [plRow] using hu)

set_option maxHeartbeats 1600000 in
theorem places64_any (p k n wd u : Nat) (hn : n ≤ 100) (w : World) (hu : u < w.heap.size) (hp : ∀ j, j < n → w.cell? ⟨u, j, none⟩ = some (.pointer (some ⟨p, k + j, none⟩))) :
    Calls Try.prog 30 #[.int .i64 (wd : Int), .slice (some ⟨u, 0, none⟩) n n] w fun e w' => ∃ v, e = .returned v ∧ OwnP w.heap.size (pls 92 p k n wd) v w' ∧ Below w.heap.size w w' := by
  obtain ⟨ik, hik0, hik1, hik2, hik3⟩ := info_parts infoPl
  have HP := Lib.hid hp; clear hp
  go_enter Try.func30, Try.ntmps30
  go_wp2
  go_loopw [5, 10] (fun v i wr => ∃ j : Nat, j ≤ n ∧ i = .int .i64 j ∧ OwnP w.heap.size (pls 92 p k j wd) v wr ∧ Below w.heap.size w wr) (fun _ i _ => n - (intOf i).toNat)
  case atStart => exact ⟨0, by omega, rfl, OwnP.nil _ _, Below.refl _ _⟩
  case round =>
    obtain ⟨j, hj, rfl, hown, hb⟩ := hrel
    by_cases hlt : j < n
    · have hc := (hb.cell (p := ⟨u, j, none⟩) hu).trans (HP.out j hlt)
      obtain ⟨x, hx⟩ : ∃ x : Pl, x = ⟨92, p, k + j, wd⟩ := ⟨_, rfl⟩
      have hcs : plCells x = [.iface 92 (.agg #[.pointer (some ⟨p, k + j, none⟩)]), .int .i64 (wd : Int)] := by rw [hx]; rfl
      have hnx : Hid (pls 92 p k (j + 1) wd = pls 92 p k j wd ++ [x]) := Lib.hid (by rw [hx]; exact pls_succ _ _ _ _ _)
      have hl := pls_length 92 p k j wd
      have h1 := plCells_one x
      rw [hcs] at h1
      unfold OwnP at hown
      rw [hl] at hown
      have HCS := Lib.hid hcs
      have HL := Lib.hid hl
      clear hx hcs hl
      generalize hkj : k + j = kj at hc h1 HCS
      clear hkj
      have hown2 : (wr.alloc (.cells [Value.iface 92 (.agg #[.pointer (some ⟨p, kj, none⟩)]), .int .i64 (wd : Int)].toArray 69)).ownsRow w.heap.size 69 2 _ j _ := World.ownsRow.alloc hown _
      have hnew := new_cells wr [Value.iface 92 (.agg #[.pointer (some ⟨p, kj, none⟩)]), .int .i64 (wd : Int)] 69
      have hb2 : Below w.heap.size w (wr.alloc (.cells [Value.iface 92 (.agg #[.pointer (some ⟨p, kj, none⟩)]), .int .i64 (wd : Int)].toArray 69)) := hb.alloc hb.size _
      clear hown hb
      go_wp2_with (first | (at_builtin; refine wpList_append_own _ rfl _ _ 47 rfl w.heap.size 69 ik (.agg #[.nilIface, .int .i64 0]) 2 24 Try.underlying47 hik0 hik1 hik2 hik3 rfl (by omega) _ j _ rfl hown2 ⟨wr.heap.size, 0, none⟩ 1 1 [Value.iface 92 (.agg #[.pointer (some ⟨p, kj, none⟩)]), .int .i64 (wd : Int)] rfl rfl hnew h1 (by unfold maxLen; omega) (by omega) hb2.size ?_; intro v' w1 hown1 hgrow hnil))
      go_roundw
      case rel =>
        refine ⟨j + 1, by omega, by go_num, ?_, hb2.trans (below_own hown2 hgrow hb2.size)⟩
        rw [hnx.out]
        unfold OwnP
        rw [plRow_snoc, List.length_append, HL.out, HCS.out]
        exact hown1
      case measure => simp [intOf]; omega
    · obtain rfl : j = n := by omega
      go_wp2
      go_ret
      exact ⟨_, rfl, hown, hb⟩

set_option maxHeartbeats 1600000 in
theorem places32_any (p k n wd u : Nat) (hn : n ≤ 100) (w : World) (hu : u < w.heap.size) (hp : ∀ j, j < n → w.cell? ⟨u, j, none⟩ = some (.pointer (some ⟨p, k + j, none⟩))) :
    Calls Try.prog 31 #[.int .i64 (wd : Int), .slice (some ⟨u, 0, none⟩) n n] w fun e w' => ∃ v, e = .returned v ∧ OwnP w.heap.size (pls 95 p k n wd) v w' ∧ Below w.heap.size w w' := by
  obtain ⟨ik, hik0, hik1, hik2, hik3⟩ := info_parts infoPl
  have HP := Lib.hid hp; clear hp
  go_enter Try.func31, Try.ntmps31
  go_wp2
  go_loopw [5, 10] (fun v i wr => ∃ j : Nat, j ≤ n ∧ i = .int .i64 j ∧ OwnP w.heap.size (pls 95 p k j wd) v wr ∧ Below w.heap.size w wr) (fun _ i _ => n - (intOf i).toNat)
  case atStart => exact ⟨0, by omega, rfl, OwnP.nil _ _, Below.refl _ _⟩
  case round =>
    obtain ⟨j, hj, rfl, hown, hb⟩ := hrel
    by_cases hlt : j < n
    · have hc := (hb.cell (p := ⟨u, j, none⟩) hu).trans (HP.out j hlt)
      obtain ⟨x, hx⟩ : ∃ x : Pl, x = ⟨95, p, k + j, wd⟩ := ⟨_, rfl⟩
      have hcs : plCells x = [.iface 95 (.agg #[.pointer (some ⟨p, k + j, none⟩)]), .int .i64 (wd : Int)] := by rw [hx]; rfl
      have hnx : Hid (pls 95 p k (j + 1) wd = pls 95 p k j wd ++ [x]) := Lib.hid (by rw [hx]; exact pls_succ _ _ _ _ _)
      have hl := pls_length 95 p k j wd
      have h1 := plCells_one x
      rw [hcs] at h1
      unfold OwnP at hown
      rw [hl] at hown
      have HCS := Lib.hid hcs
      have HL := Lib.hid hl
      clear hx hcs hl
      generalize hkj : k + j = kj at hc h1 HCS
      clear hkj
      have hown2 : (wr.alloc (.cells [Value.iface 95 (.agg #[.pointer (some ⟨p, kj, none⟩)]), .int .i64 (wd : Int)].toArray 69)).ownsRow w.heap.size 69 2 _ j _ := World.ownsRow.alloc hown _
      have hnew := new_cells wr [Value.iface 95 (.agg #[.pointer (some ⟨p, kj, none⟩)]), .int .i64 (wd : Int)] 69
      have hb2 : Below w.heap.size w (wr.alloc (.cells [Value.iface 95 (.agg #[.pointer (some ⟨p, kj, none⟩)]), .int .i64 (wd : Int)].toArray 69)) := hb.alloc hb.size _
      clear hown hb
      go_wp2_with (first | (at_builtin; refine wpList_append_own _ rfl _ _ 47 rfl w.heap.size 69 ik (.agg #[.nilIface, .int .i64 0]) 2 24 Try.underlying47 hik0 hik1 hik2 hik3 rfl (by omega) _ j _ rfl hown2 ⟨wr.heap.size, 0, none⟩ 1 1 [Value.iface 95 (.agg #[.pointer (some ⟨p, kj, none⟩)]), .int .i64 (wd : Int)] rfl rfl hnew h1 (by unfold maxLen; omega) (by omega) hb2.size ?_; intro v' w1 hown1 hgrow hnil))
      go_roundw
      case rel =>
        refine ⟨j + 1, by omega, by go_num, ?_, hb2.trans (below_own hown2 hgrow hb2.size)⟩
        rw [hnx.out]
        unfold OwnP
        rw [plRow_snoc, List.length_append, HL.out, HCS.out]
        exact hown1
      case measure => simp [intOf]; omega
    · obtain rfl : j = n := by omega
      go_wp2
      go_ret
      exact ⟨_, rfl, hown, hb⟩

set_option maxHeartbeats 1600000 in
theorem places8_any (p k n wd u : Nat) (hn : n ≤ 100) (w : World) (hu : u < w.heap.size) (hp : ∀ j, j < n → w.cell? ⟨u, j, none⟩ = some (.pointer (some ⟨p, k + j, none⟩))) :
    Calls Try.prog 32 #[.int .i64 (wd : Int), .slice (some ⟨u, 0, none⟩) n n] w fun e w' => ∃ v, e = .returned v ∧ OwnP w.heap.size (pls 98 p k n wd) v w' ∧ Below w.heap.size w w' := by
  obtain ⟨ik, hik0, hik1, hik2, hik3⟩ := info_parts infoPl
  have HP := Lib.hid hp; clear hp
  go_enter Try.func32, Try.ntmps32
  go_wp2
  go_loopw [5, 10] (fun v i wr => ∃ j : Nat, j ≤ n ∧ i = .int .i64 j ∧ OwnP w.heap.size (pls 98 p k j wd) v wr ∧ Below w.heap.size w wr) (fun _ i _ => n - (intOf i).toNat)
  case atStart => exact ⟨0, by omega, rfl, OwnP.nil _ _, Below.refl _ _⟩
  case round =>
    obtain ⟨j, hj, rfl, hown, hb⟩ := hrel
    by_cases hlt : j < n
    · have hc := (hb.cell (p := ⟨u, j, none⟩) hu).trans (HP.out j hlt)
      obtain ⟨x, hx⟩ : ∃ x : Pl, x = ⟨98, p, k + j, wd⟩ := ⟨_, rfl⟩
      have hcs : plCells x = [.iface 98 (.agg #[.pointer (some ⟨p, k + j, none⟩)]), .int .i64 (wd : Int)] := by rw [hx]; rfl
      have hnx : Hid (pls 98 p k (j + 1) wd = pls 98 p k j wd ++ [x]) := Lib.hid (by rw [hx]; exact pls_succ _ _ _ _ _)
      have hl := pls_length 98 p k j wd
      have h1 := plCells_one x
      rw [hcs] at h1
      unfold OwnP at hown
      rw [hl] at hown
      have HCS := Lib.hid hcs
      have HL := Lib.hid hl
      clear hx hcs hl
      generalize hkj : k + j = kj at hc h1 HCS
      clear hkj
      have hown2 : (wr.alloc (.cells [Value.iface 98 (.agg #[.pointer (some ⟨p, kj, none⟩)]), .int .i64 (wd : Int)].toArray 69)).ownsRow w.heap.size 69 2 _ j _ := World.ownsRow.alloc hown _
      have hnew := new_cells wr [Value.iface 98 (.agg #[.pointer (some ⟨p, kj, none⟩)]), .int .i64 (wd : Int)] 69
      have hb2 : Below w.heap.size w (wr.alloc (.cells [Value.iface 98 (.agg #[.pointer (some ⟨p, kj, none⟩)]), .int .i64 (wd : Int)].toArray 69)) := hb.alloc hb.size _
      clear hown hb
      go_wp2_with (first | (at_builtin; refine wpList_append_own _ rfl _ _ 47 rfl w.heap.size 69 ik (.agg #[.nilIface, .int .i64 0]) 2 24 Try.underlying47 hik0 hik1 hik2 hik3 rfl (by omega) _ j _ rfl hown2 ⟨wr.heap.size, 0, none⟩ 1 1 [Value.iface 98 (.agg #[.pointer (some ⟨p, kj, none⟩)]), .int .i64 (wd : Int)] rfl rfl hnew h1 (by unfold maxLen; omega) (by omega) hb2.size ?_; intro v' w1 hown1 hgrow hnil))
      go_roundw
      case rel =>
        refine ⟨j + 1, by omega, by go_num, ?_, hb2.trans (below_own hown2 hgrow hb2.size)⟩
        rw [hnx.out]
        unfold OwnP
        rw [plRow_snoc, List.length_append, HL.out, HCS.out]
        exact hown1
      case measure => simp [intOf]; omega
    · obtain rfl : j = n := by omega
      go_wp2
      go_ret
      exact ⟨_, rfl, hown, hb⟩

/-! slices.Grow of nil, slices.Concat of three. -/
set_option maxHeartbeats 1600000 in
theorem grow_any (n : Nat) (h0 : 0 < n) (h1 : n ≤ 100) (w : World) :
    Calls Try.prog 44 #[.slice none 0 0, .int .i64 (n : Int)] w fun e w' => ∃ v, e = .returned v ∧ OwnP w.heap.size [] v w' ∧ Below w.heap.size w w' := by
  obtain ⟨ik, hik0, hik1, hik2, hik3⟩ := info_parts infoPl
  have hr := Lib.run_append_nil_zeros (P := Try.prog) w 47 3 47 69 ik _ .i64 .i64 Try.underlying47 Try.underlying3 hik0 hik1 n h0 (by omega) (by omega) (by rw [hik3]; omega)
  have hG := grownCap_le_maxLen w n 0 69 (by unfold maxLen; omega)
  have hge := grownCap_ge w n 0 69
  generalize grownCap w n 0 69 = G at hr hG hge
  have hsz : (Builtin.zeroCells (Value.agg #[.nilIface, .int .i64 0]).cells n ++ Builtin.zeroCells (Value.agg #[.nilIface, .int .i64 0]).cells (G - n)).size = G * 2 := by
    rw [Array.size_append, size_zeroCells, size_zeroCells]
    show n * 2 + (G - n) * 2 = G * 2
    omega
  generalize Builtin.zeroCells (Value.agg #[.nilIface, .int .i64 0]).cells n ++ Builtin.zeroCells (Value.agg #[.nilIface, .int .i64 0]).cells (G - n) = Z at hr hsz
  have hown := World.ownsRow_made (base := w.heap.size) (e := 69) (size := 2) w.drew Z G (Nat.le_refl _) hG hsz
  have hb : Below w.heap.size w (w.drew.alloc (.cells Z 69)) := (Below.refl _ _).drew.alloc (Nat.le_refl _) _
  have hG2 : G ≤ 9223372036854775807 := by unfold maxLen at hG; omega
  go_enter Try.func44, Try.ntmps44
  go_wp2_with (at_builtin; refine Lib.wpList_append_run _ rfl _ _ _ _ rfl _ _ rfl rfl _ _ hr ?_)
  go_ret
  exact ⟨_, rfl, hown, hb⟩

theorem flat_succ {α : Type} (ls : List (List α)) (k : Nat) (h : k < ls.length) : (ls.take (k + 1)).flatten = (ls.take k).flatten ++ ls.getD k [] := by
  rw [List.take_succ_eq_append_getElem h, List.flatten_append, List.getD_eq_getElem?_getD, List.getElem?_eq_getElem h]
  simp
theorem flat_le {α : Type} (ls : List (List α)) (k : Nat) : (ls.take k).flatten.length ≤ ls.flatten.length := by
  conv => rhs; rw [← List.take_append_drop k ls, List.flatten_append, List.length_append]
  omega

set_option maxHeartbeats 3200000 in
theorem concat_any (ls : List (List Pl)) (vs : List Value) (hlen : vs.length = ls.length) (hls : ls.length ≤ 100) (h0 : 0 < ls.flatten.length) (h100 : ls.flatten.length ≤ 100) (u : Nat) (w : World) (hu : w.heap[u]? = some (.cells vs.toArray 47 (0, 0)))
    (hr : ∀ i, i < ls.length → RowP (ls.getD i []) (vs.getD i undef) w) :
    Calls Try.prog 29 #[.slice (some ⟨u, 0, none⟩) ls.length ls.length] w fun e w' => ∃ v, e = .returned v ∧ OwnP w.heap.size ls.flatten v w' ∧ Below w.heap.size w w' := by
  obtain ⟨ik, hik0, hik1, hik2, hik3⟩ := info_parts infoPl
  have hult : u < w.heap.size := (Array.getElem?_eq_some_iff.1 hu).1
  have hc : ∀ k, k < ls.length → w.cell? ⟨u, k, none⟩ = some (vs.getD k undef) := fun k h => (cell_of_row w u k _ _ _ hu).trans (by rw [List.getElem?_toArray, List.getD_eq_getElem?_getD, List.getElem?_eq_getElem (by omega)]; rfl)
  have HC := Lib.hid hc; clear hc hu
  have HR := Lib.hid hr; clear hr
  have HT : Hid (∀ k, k < ls.length → (ls.take (k + 1)).flatten = (ls.take k).flatten ++ ls.getD k []) := Lib.hid (flat_succ ls)
  have HE := Lib.hid (flat_le ls)
  have HA : Hid ((ls.take ls.length).flatten = ls.flatten) := Lib.hid (by rw [List.take_length])
  obtain ⟨n, hn⟩ : ∃ n, n = ls.length := ⟨_, rfl⟩
  rw [← hn] at hls HA ⊢
  have HN := Lib.hid hn; clear hn hlen
  go_enter Try.func29, Try.ntmps29
  go_wp2
  go_loopw [3, 11] (fun z i wr => ∃ k : Nat, k ≤ n ∧ i = .int .i64 k ∧ z = .int .i64 ((ls.take k).flatten.length : Nat) ∧ w = wr) (fun _ i _ => n - (intOf i).toNat)
  case atStart => exact ⟨0, by omega, rfl, rfl, rfl⟩
  case round =>
    obtain ⟨k, hk, rfl, rfl, rfl⟩ := hrel
    by_cases hlt : k < n
    · have hkl : k < ls.length := by have := HN.out; omega
      have c1 := HC.out k hkl
      obtain ⟨g, cap, hv, hg, hx⟩ := HR.out k hkl
      rw [hv] at c1
      have ht := HT.out k hkl
      have he := HE.out (k + 1)
      have HTT := Lib.hid ht
      have hz : ((ls.take (k + 1)).flatten).length = ((ls.take k).flatten).length + (ls.getD k []).length := by rw [HTT.out, List.length_append]
      have HZ := Lib.hid hz
      clear hv hx ht hz
      have hb1 := HZ.out
      generalize (ls.take k).flatten.length = a at hb1 HZ ⊢
      generalize (ls.getD k []).length = b at c1 hb1 HZ
      have hab : a + b ≤ 100 := by omega
      clear hb1 he
      have z1 : IntKind.i64.wrap ((a : Int) + (b : Int)) = (a : Int) + (b : Int) := IntWalk.i64_in _ (by omega)
      have d1 : ¬ ((a : Int) + (b : Int)) < 0 := by omega
      go_wp2
      go_roundw
      case rel => exact ⟨k + 1, by omega, by go_num, by rw [HZ.out]; go_num, trivial⟩
      case measure => simp [intOf]; omega
    · obtain rfl : n = k := by omega
      rw [HA.out]
      generalize hN2 : ls.flatten.length = N at h0 h100 ⊢
      have HN2 := Lib.hid hN2; clear hN2
      go_wp2_with fail
      refine (grow_any N h0 h100 _).mono ?_
      rintro e W1 ⟨v, rfl, hown, hbel⟩
      go_wp2_with fail
      go_loopw [6, 27] (fun v i wr => ∃ j : Nat, j ≤ n ∧ i = .int .i64 j ∧ OwnP w.heap.size ((ls.take j).flatten) v wr ∧ Below w.heap.size w wr) (fun _ i _ => n - (intOf i).toNat)
      case atStart => exact ⟨0, by omega, rfl, hown, hbel⟩
      case round =>
        obtain ⟨j, hj, rfl, hown, hbel⟩ := hrel
        by_cases hlt2 : j < n
        · have hjl : j < ls.length := by have := HN.out; omega
          have c1 := (hbel.cell (p := ⟨u, j, none⟩) hult).trans (HC.out j hjl)
          obtain ⟨g, cap, hv, hg, hx⟩ := (HR.out j hjl).below hbel
          rw [hv] at c1
          have HTT := Lib.hid (HT.out j hjl)
          have he := HE.out (j + 1)
          rw [HTT.out, List.length_append, HN2.out] at he
          have hone := plRow_one (ls.getD j [])
          have hll := plRow_length (ls.getD j [])
          have hcells : ∀ i x, (plRow (ls.getD j []))[i]? = some x → wr.cell? ((⟨g, 0, none⟩ : Addr).add i) = some x := fun i x h => by
            rw [Addr.add_mid, Nat.zero_add]
            exact hx i x h
          clear hv hx
          unfold OwnP at hown
          obtain ⟨X, hX⟩ : ∃ X, X = (ls.take j).flatten := ⟨_, rfl⟩
          obtain ⟨Y, hY⟩ : ∃ Y, Y = ls.getD j [] := ⟨_, rfl⟩
          rw [← hX] at hown HTT he
          rw [← hY] at c1 HTT he hone hll hcells
          clear hX hY
          have h63 : X.length + Y.length ≤ maxLen := by unfold maxLen; omega
          have hby : (X.length + Y.length) * 24 ≤ 140737488355328 := by omega
          have hsz := hbel.size
          have HO := Lib.hid hone; clear hone
          have HLL := Lib.hid hll; clear hll
          have HCL := Lib.hid hcells; clear hcells
          clear he hg
          go_wp2_with (first | (at_builtin; refine wpList_append_own _ rfl _ _ 47 rfl w.heap.size 69 ik (.agg #[.nilIface, .int .i64 0]) 2 24 Try.underlying47 hik0 hik1 hik2 hik3 rfl (by omega) _ X.length _ rfl hown ⟨g, 0, none⟩ Y.length _ (plRow Y) rfl HLL.out HCL.out HO.out h63 hby hsz ?_; intro v' w1 hown1 hgrow hnil))
          go_roundw
          case rel =>
            refine ⟨j + 1, by omega, by go_num, ?_, hbel.trans (below_own hown hgrow hsz)⟩
            rw [HTT.out]
            unfold OwnP
            rw [plRow_app, List.length_append]
            exact hown1
          case measure => simp [intOf]; omega
        · obtain rfl : n = j := by omega
          rw [HA.out] at hown
          go_wp2
          go_ret
          exact ⟨_, rfl, hown, hbel⟩

end Go.Proofs.Ytdlgdnmmeopkjaa.Slt
