/- bits.First: what it returns. -/
import Derived.Test.YtffnnpjgfjkmjaaDoorOf
namespace Go.Proofs.YtffnnpjgfjkmjaaDoor
open Go.RowKit Go.Shelf
attribute [local go_sem] Oper.semAt_some

/-- The least square and no error, or 0 and the error 8. -/
def firstV (b : BitVec 64) : Int × Int := match squares b with
  | [] => (0, 8)
  | x :: _ => ((x : Int), 0)
def FirstPost (b : BitVec 64) (w : World) (e : Ending) (w' : World) : Prop := e = .returned (.tuple #[.int .i64 (firstV b).1, .int .i64 (firstV b).2]) ∧ Below w.heap.size w w'

set_option maxRecDepth 100000 in
set_option maxHeartbeats 2000000 in
theorem first_in (b : BitVec 64) (w : World) (hT : Tab w) : CallsIn Fence.wide 6 Tryd.prog 17 #[.int .u64 (b.toNat : Int)] w (FirstPost b w) := by
  have HT : Hid (Tab w) := Lib.hid hT
  obtain ⟨c, hc⟩ : ∃ c : Nat, c = (squares b).length := ⟨_, rfl⟩
  have hN : Hid (c = (squares b).length) := Lib.hid hc
  clear hT hc
  refine callsIn_of_wp_marks Tryd.func17 rfl trivial ?_ rfl
  simp only [Tryd.ntmps17, List.size_toArray, List.length_cons, List.length_nil, Nat.reduceAdd, Nat.reduceSub, Array.replicate_succ, Array.replicate_zero, List.push_toArray, List.append_toArray, List.nil_append, List.cons_append]
  gi_wp2_with (refine ⟨trivial, ?_⟩; gi_at_call 10; refine (all_in _ b _).mono ?_; rintro e w' ⟨rfl, rfl⟩)
  have b2 := Boxed.new w 3 (.int .i64 0)
  have b3 := Boxed.new (w.alloc (.cells #[.int .i64 0] 3)) 27 (.int .i64 0)
  have b4 := Boxed.new ((w.alloc (.cells #[.int .i64 0] 3)).alloc (.cells #[.int .i64 0] 27)) 22 (.int .u64 (b.toNat : Int))
  simp only [World.size_alloc] at b3 b4
  have hB0 : Below w.heap.size w (((w.alloc (.cells #[.int .i64 0] 3)).alloc (.cells #[.int .i64 0] 27)).alloc (.cells #[.int .u64 (b.toNat : Int)] 22)) := (((Below.refl _ w).alloc (Nat.le_refl _) _).alloc (by simp) _).alloc (by simp; omega) _
  have h0lt : 0 < w.heap.size := HT.out.size
  have c2 := b2.cell
  have f2 := b2.frozen
  have c3 := b3.cell
  have f3 := b3.frozen
  refine wpIn_rangeFunc_ownF rfl (by omega) (gf := 22) (lb := #[.pointer (some ⟨w.heap.size + 1 + 1, 0, none⟩)]) rfl trivial (enters_of Tryd.func22 (by kernel_rfl) rfl)
    (all_stops _ (by omega) (w.heap.size + 1 + 1) c b hN _ (HT.out.below hB0 h0lt) (by simp) b4.cell) keepsTab_t (fun W l o o' _ h hc _ => keepsTab_b W l o o' h hc) (Below.refl _ _) (fun _ => rfl)
    (fun pre W => (pre = [] ∧ W.cell? ⟨w.heap.size, 0, none⟩ = some (.int .i64 0) ∧ W.frozen? ⟨w.heap.size, 0, none⟩ = false ∧ W.cell? ⟨w.heap.size + 1, 0, none⟩ = some (.int .i64 0) ∧ W.frozen? ⟨w.heap.size + 1, 0, none⟩ = false) ∧ Below w.heap.size w W)
    (fun e pre W => (e = .ret ∧ ∃ x : Nat, pre = [x] ∧ W.cell? ⟨w.heap.size, 0, none⟩ = some (.int .i64 (x : Int)) ∧ W.cell? ⟨w.heap.size + 1, 0, none⟩ = some (.int .i64 0)) ∧ Below w.heap.size w W)
    (OwnFrom.and (Own.from (fun s A B row hs hg hr => ⟨hs.1, cell_kept hs.2.1 hg hr, (frozen_kept hs.2.1 hg hr).trans hs.2.2.1, cell_kept hs.2.2.2.1 hg hr, (frozen_kept hs.2.2.2.1 hg hr).trans hs.2.2.2.2⟩) _) (ownFrom_below (Nat.le_refl _) (by simp; omega)))
    (fun e => OwnFrom.and (Own.from (fun s A B row hs hg hr => ⟨hs.1, hs.2.imp fun x h => ⟨h.1, cell_kept h.2.1 hg hr, cell_kept h.2.2 hg hr⟩⟩) _) (ownFrom_below (Nat.le_refl _) (by simp; omega)))
    ⟨⟨rfl, c_more _ (c_more _ c2), f_more _ (c_more _ c2) (f_more _ c2 f2), c_more _ c3, f_more _ c3 f3⟩, hB0⟩
    (fun x => { tmps := #[.int .u64 (b.toNat : Int), undef, .pointer (some ⟨w.heap.size, 0, none⟩), .pointer (some ⟨w.heap.size + 1, 0, none⟩), .int .i64 (x : Int), .int .u64 (b.toNat : Int), .func (.func 22) #[] #[.pointer (some ⟨w.heap.size + 1 + 1, 0, none⟩)], .int .i64 (x : Int), undef], defers := [] }) ?assign ?body ?done ?stop
  case assign =>
    intro l x W K hK
    gi_wp2
    exact hK
  case body =>
    rintro l pre x W ⟨⟨rfl, hc, hf, hd, hg⟩, hB⟩ _
    have far : ∀ (V : World) (p q : Nat) (v : Value), p ≠ q → (V.setCell ⟨p, 0, none⟩ v).cell? ⟨q, 0, none⟩ = V.cell? ⟨q, 0, none⟩ := fun V p q v h => World.cell?_setCell_other _ _ _ _ (fun e => h (congrArg Addr.block e))
    have s1 := World.cell?_setCell_same W ⟨w.heap.size, 0, none⟩ (.int .i64 (x : Int)) hc
    have s2 : ((W.setCell ⟨w.heap.size, 0, none⟩ (.int .i64 (x : Int))).setCell ⟨w.heap.size + 1, 0, none⟩ (.int .i64 0)).cell? ⟨w.heap.size, 0, none⟩ = some (.int .i64 (x : Int)) := by rw [far _ _ _ _ (by omega)]; exact s1
    have s3 : ((W.setCell ⟨w.heap.size, 0, none⟩ (.int .i64 (x : Int))).setCell ⟨w.heap.size + 1, 0, none⟩ (.int .i64 0)).cell? ⟨w.heap.size + 1, 0, none⟩ = some (.int .i64 0) :=
      World.cell?_setCell_same _ _ _ (by rw [far _ _ _ _ (by omega)]; exact hd)
    have HH : Hid _ := Lib.hid (And.intro s2 s3)
    clear far s1 s2 s3
    gi_wp2
    exact ⟨(KeepsOthers.setCell _ _ _).trans (KeepsOthers.setCell _ _ _), ⟨rfl, x, rfl, HH.out.1, HH.out.2⟩, (hB.setCell (p := ⟨w.heap.size, 0, none⟩) (Nat.le_refl _) _).setCell (p := ⟨w.heap.size + 1, 0, none⟩) (by simp) _⟩
  case done =>
    rintro D ys W hD rfl ⟨⟨hnil, hc, hf, hd, hg⟩, hB⟩ hK
    have hres : Hid (firstV b = (0, 8)) := Lib.hid (by rw [firstV, hnil])
    clear hnil
    have far : ∀ (V : World) (p q : Nat) (v : Value), p ≠ q → (V.setCell ⟨p, 0, none⟩ v).cell? ⟨q, 0, none⟩ = V.cell? ⟨q, 0, none⟩ := fun V p q v h => World.cell?_setCell_other _ _ _ _ (fun e => h (congrArg Addr.block e))
    have s1 := World.cell?_setCell_same W ⟨w.heap.size, 0, none⟩ (.int .i64 0) hc
    have s2 : ((W.setCell ⟨w.heap.size, 0, none⟩ (.int .i64 0)).setCell ⟨w.heap.size + 1, 0, none⟩ (.int .i64 8)).cell? ⟨w.heap.size, 0, none⟩ = some (.int .i64 0) := by rw [far _ _ _ _ (by omega)]; exact s1
    have s3 : ((W.setCell ⟨w.heap.size, 0, none⟩ (.int .i64 0)).setCell ⟨w.heap.size + 1, 0, none⟩ (.int .i64 8)).cell? ⟨w.heap.size + 1, 0, none⟩ = some (.int .i64 8) :=
      World.cell?_setCell_same _ _ _ (by rw [far _ _ _ _ (by omega)]; exact hd)
    have hK' : ((W.setCell ⟨w.heap.size, 0, none⟩ (.int .i64 0)).setCell ⟨w.heap.size + 1, 0, none⟩ (.int .i64 8)).heap[D]? = some (.deferred (some [])) := ((KeepsOthers.setCell W ⟨w.heap.size, 0, none⟩ (.int .i64 0)).trans (KeepsOthers.setCell _ ⟨w.heap.size + 1, 0, none⟩ (.int .i64 8))).same D _ hK rfl
    have hBB : Below w.heap.size w ((W.setCell ⟨w.heap.size, 0, none⟩ (.int .i64 0)).setCell ⟨w.heap.size + 1, 0, none⟩ (.int .i64 8)) := (hB.setCell (p := ⟨w.heap.size, 0, none⟩) (Nat.le_refl _) _).setCell (p := ⟨w.heap.size + 1, 0, none⟩) (by simp) _
    have HH : Hid _ := Lib.hid (And.intro s2 (And.intro s3 (And.intro hK' hBB)))
    clear far s1 s2 s3 hK' hBB
    gi_wp2
    obtain ⟨s2, s3, hK', hBB⟩ := HH.out
    refine ⟨by simp, .inl ⟨_, _, rfl, run_takeDeferred hK', ?_⟩⟩
    have k2 := cell_kept s2 (grownBy_putObj' _ D (.deferred none)) (fun r e => by cases e; exact ⟨_, hK', rfl⟩)
    have k3 := cell_kept s3 (grownBy_putObj' _ D (.deferred none)) (fun r e => by cases e; exact ⟨_, hK', rfl⟩)
    refine ⟨.tuple #[.int .i64 0, .int .i64 8], ?_, by rw [hres.out], hBB.trans (belowK_b (w := w) (Nat.le_refl _) _ D _ _ (by simp at hD; omega) hK' rfl rfl)⟩
    simp [results, Tryd.f17, go_sem, k2, k3]
  case stop =>
    rintro D e pre W hD hpre ⟨⟨rfl, x, rfl, hc, hd⟩, hB⟩ hK
    have hres : Hid (firstV b = ((x : Int), 0)) := Lib.hid (by
      obtain ⟨r, hr⟩ := hpre
      rw [firstV, ← hr]; rfl)
    clear hpre
    gi_wp2
    refine ⟨by simp, .inl ⟨_, _, rfl, run_takeDeferred hK, ?_⟩⟩
    have k2 := cell_kept hc (grownBy_putObj' _ D (.deferred none)) (fun r e => by cases e; exact ⟨_, hK, rfl⟩)
    have k3 := cell_kept hd (grownBy_putObj' _ D (.deferred none)) (fun r e => by cases e; exact ⟨_, hK, rfl⟩)
    refine ⟨.tuple #[.int .i64 (x : Int), .int .i64 0], ?_, by rw [hres.out], hB.trans (belowK_b (w := w) (Nat.le_refl _) _ D _ _ (by simp at hD; omega) hK rfl rfl)⟩
    simp [results, Tryd.f17, go_sem, k2, k3]
theorem first_any (b : BitVec 64) (w : World) (hT : Tab w) : Calls Tryd.prog 17 #[.int .u64 (b.toNat : Int)] w (FirstPost b w) := callsIn_wide.1 (first_in b w hT)
end Go.Proofs.YtffnnpjgfjkmjaaDoor
