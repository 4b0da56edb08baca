/-
  NameNames: calls that stand for their runs.
-/
import Derived.Test.YtcanpcjjmbcifaaCloze
import Derived.Test.YtcanpcjjmbcifaaCloMemo
namespace Go.Proofs.Ytcanpcjjmbcifaa.nameNamesM
open Go.RowKit
set_option linter.unusedVariables false

def args0 : List Clo.AV := []
def val0 : Clo.AV := (Clo.AV.b Bool.true)
set_option maxRecDepth 10000000 in
theorem mk0 : (Clo.layK [] .e fun h => Clo.runF Try.prog Clo.noX 1000000 1000 14 args0 h 1000) = .ok val0 := by kernel_rfl
theorem fact0 : Clo.Fact Try.prog 14 [] args0 val0 := Clo.fact_of Clo.plain Clo.noX_ok Clo.mixed mk0 (by kernel_rfl) (by kernel_rfl)
def tab0 : List (List Clo.AV × Clo.AV) := [(args0, val0)]
noncomputable def x0 : Clo.XT := Clo.addB Clo.noX 14 (Clo.memoH [] tab0)
theorem x0_ok : Clo.XOK Try.prog x0 := Clo.addB_ok Clo.noX_ok (Clo.memo_ok (fun _ _ h => by cases h) (Clo.facts_mem (show Clo.Facts _ _ _ tab0 from ⟨fact0, trivial⟩)))
def args1 : List Clo.AV := [.s 4 1647205473, .s 5 1647206659, .s 5 199215701089]
def val1 : Clo.AV := (Clo.AV.b Bool.true)
set_option maxRecDepth 10000000 in
theorem mk1 : (Clo.layK [] .e fun h => Clo.runF Try.prog x0 1000000 1000 18 args1 h 1000) = .ok val1 := by kernel_rfl
theorem fact1 : Clo.Fact Try.prog 18 [] args1 val1 := Clo.fact_of Clo.plain x0_ok Clo.mixed mk1 (by kernel_rfl) (by kernel_rfl)
def args2 : List Clo.AV := [.s 9 852384253419942064220, .s 4 16711682, .s 9 852384253419942064220]
def val2 : Clo.AV := (Clo.AV.b Bool.true)
set_option maxRecDepth 10000000 in
theorem mk2 : (Clo.layK [] .e fun h => Clo.runF Try.prog x0 1000000 1000 18 args2 h 1000) = .ok val2 := by kernel_rfl
theorem fact2 : Clo.Fact Try.prog 18 [] args2 val2 := Clo.fact_of Clo.plain x0_ok Clo.mixed mk2 (by kernel_rfl) (by kernel_rfl)
def args3 : List Clo.AV := [.s 4 1549558108, .s 4 6054146, .s 4 777804897]
def val3 : Clo.AV := (Clo.AV.b Bool.true)
set_option maxRecDepth 10000000 in
theorem mk3 : (Clo.layK [] .e fun h => Clo.runF Try.prog x0 1000000 1000 18 args3 h 1000) = .ok val3 := by kernel_rfl
theorem fact3 : Clo.Fact Try.prog 18 [] args3 val3 := Clo.fact_of Clo.plain x0_ok Clo.mixed mk3 (by kernel_rfl) (by kernel_rfl)
def args4 : List Clo.AV := [.s 6 138681125515356, .s 5 2116116739, .s 4 780018017]
def val4 : Clo.AV := (Clo.AV.b Bool.true)
set_option maxRecDepth 10000000 in
theorem mk4 : (Clo.layK [] .e fun h => Clo.runF Try.prog x0 1000000 1000 18 args4 h 1000) = .ok val4 := by kernel_rfl
theorem fact4 : Clo.Fact Try.prog 18 [] args4 val4 := Clo.fact_of Clo.plain x0_ok Clo.mixed mk4 (by kernel_rfl) (by kernel_rfl)
def args5 : List Clo.AV := [.s 253 906467608039828112566187148617855295305928136873679554662433664308566349783165059179339728959109179095344486262430808670215594323957412974836914745824721887076568796172293930169486708934615929119301798914311563404542581343011142695689433920786060759772202569982833293841840931094629236449452199552984414225287410766011092307539789994599205437658413681568604679596884965348956320858355014953243940656979256613559232971637726389055276079158557614033211192420357103385017476680942259408665904021888869628880937515532488113227789888313104402122821551555776711065138673325851291671962680190266476893507694693480568, .s 255 232055707658195996816943910046170955598317603039661965993583018062992985544490255149910970613531949848408188483182287019575192146933097721558250174967283489495417100648808995213813309180943076573726594792458885817541761697687900540132770445331422299453415352128925395041447533042149459405603957903925632869580106512760261142110741748724666237754101251463553747152142420453390498298032946703637549211266283355141631618868438484248481947524085587115610991875488309893885600040077154144762568748579424364117291042219072002240883489511116039145054002064055566966980248408247837823604866157706986777740016891534538815, .s 254 89513676293933026115910980926013210411460403516275856022915324350470927041087549593959798234712031435665268018415042356183789939490794531265145331218296735333706829674726031345275133350065301551371447289898459835724124212619648981979903950773278383779679421335818001177048952946037336488710340439872522395616720848585774737917843003601789468516072859655501992356764482994081923987519449111310583279421655551500232073748632278908944401486250873264172667596196240577523264340564540685235526968422492693267153995376276970690797028690760300489835714897741110286969847668544638593074331822712351119357642940142352504]
def val5 : Clo.AV := (Clo.AV.b Bool.true)
set_option maxRecDepth 10000000 in
theorem mk5 : (Clo.layK [] .e fun h => Clo.runF Try.prog x0 1000000 1000 18 args5 h 1000) = .ok val5 := by kernel_rfl
theorem fact5 : Clo.Fact Try.prog 18 [] args5 val5 := Clo.fact_of Clo.plain x0_ok Clo.mixed mk5 (by kernel_rfl) (by kernel_rfl)
def tab1 : List (List Clo.AV × Clo.AV) := [(args1, val1), (args2, val2), (args3, val3), (args4, val4), (args5, val5)]
noncomputable def x1 : Clo.XT := Clo.addB x0 18 (Clo.memoH [] tab1)
theorem x1_ok : Clo.XOK Try.prog x1 := Clo.addB_ok x0_ok (Clo.memo_ok (fun _ _ h => by cases h) (Clo.facts_mem (show Clo.Facts _ _ _ tab1 from ⟨fact1, fact2, fact3, fact4, fact5, trivial⟩)))
def args6 : List Clo.AV := [.s 0 0]
def val6 : Clo.AV := (Clo.AV.tu [(Clo.AV.s 0 0), (Clo.AV.i Go.IntKind.i64 (Int.ofNat 3))])
set_option maxRecDepth 10000000 in
theorem mk6 : (Clo.layK [] .e fun h => Clo.runF Try.prog x1 1000000 1000 19 args6 h 1000) = .ok val6 := by kernel_rfl
theorem fact6 : Clo.Fact Try.prog 19 [] args6 val6 := Clo.fact_of Clo.plain x1_ok Clo.mixed mk6 (by kernel_rfl) (by kernel_rfl)
def args7 : List Clo.AV := [.s 2 11822]
def val7 : Clo.AV := (Clo.AV.tu [(Clo.AV.s 0 0), (Clo.AV.i Go.IntKind.i64 (Int.ofNat 3))])
set_option maxRecDepth 10000000 in
theorem mk7 : (Clo.layK [] .e fun h => Clo.runF Try.prog x1 1000000 1000 19 args7 h 1000) = .ok val7 := by kernel_rfl
theorem fact7 : Clo.Fact Try.prog 19 [] args7 val7 := Clo.fact_of Clo.plain x1_ok Clo.mixed mk7 (by kernel_rfl) (by kernel_rfl)
def args8 : List Clo.AV := [.s 2 24878]
def val8 : Clo.AV := (Clo.AV.tu [(Clo.AV.s 0 0), (Clo.AV.i Go.IntKind.i64 (Int.ofNat 3))])
set_option maxRecDepth 10000000 in
theorem mk8 : (Clo.layK [] .e fun h => Clo.runF Try.prog x1 1000000 1000 19 args8 h 1000) = .ok val8 := by kernel_rfl
theorem fact8 : Clo.Fact Try.prog 19 [] args8 val8 := Clo.fact_of Clo.plain x1_ok Clo.mixed mk8 (by kernel_rfl) (by kernel_rfl)
def args9 : List Clo.AV := [.s 3 3026529]
def val9 : Clo.AV := (Clo.AV.tu [(Clo.AV.s 0 0), (Clo.AV.i Go.IntKind.i64 (Int.ofNat 3))])
set_option maxRecDepth 10000000 in
theorem mk9 : (Clo.layK [] .e fun h => Clo.runF Try.prog x1 1000000 1000 19 args9 h 1000) = .ok val9 := by kernel_rfl
theorem fact9 : Clo.Fact Try.prog 19 [] args9 val9 := Clo.fact_of Clo.plain x1_ok Clo.mixed mk9 (by kernel_rfl) (by kernel_rfl)
def args10 : List Clo.AV := [.s 4 1647193697]
def val10 : Clo.AV := (Clo.AV.tu [(Clo.AV.s 0 0), (Clo.AV.i Go.IntKind.i64 (Int.ofNat 3))])
set_option maxRecDepth 10000000 in
theorem mk10 : (Clo.layK [] .e fun h => Clo.runF Try.prog x1 1000000 1000 19 args10 h 1000) = .ok val10 := by kernel_rfl
theorem fact10 : Clo.Fact Try.prog 19 [] args10 val10 := Clo.fact_of Clo.plain x1_ok Clo.mixed mk10 (by kernel_rfl) (by kernel_rfl)
def args11 : List Clo.AV := [.s 3 6430817]
def val11 : Clo.AV := (Clo.AV.tu [(Clo.AV.s 0 0), (Clo.AV.i Go.IntKind.i64 (Int.ofNat 3))])
set_option maxRecDepth 10000000 in
theorem mk11 : (Clo.layK [] .e fun h => Clo.runF Try.prog x1 1000000 1000 19 args11 h 1000) = .ok val11 := by kernel_rfl
theorem fact11 : Clo.Fact Try.prog 19 [] args11 val11 := Clo.fact_of Clo.plain x1_ok Clo.mixed mk11 (by kernel_rfl) (by kernel_rfl)
def args12 : List Clo.AV := [.s 2 32609]
def val12 : Clo.AV := (Clo.AV.tu [(Clo.AV.s 0 0), (Clo.AV.i Go.IntKind.i64 (Int.ofNat 3))])
set_option maxRecDepth 10000000 in
theorem mk12 : (Clo.layK [] .e fun h => Clo.runF Try.prog x1 1000000 1000 19 args12 h 1000) = .ok val12 := by kernel_rfl
theorem fact12 : Clo.Fact Try.prog 19 [] args12 val12 := Clo.fact_of Clo.plain x1_ok Clo.mixed mk12 (by kernel_rfl) (by kernel_rfl)
def args13 : List Clo.AV := [.s 2 43459]
def val13 : Clo.AV := (Clo.AV.tu [(Clo.AV.s 0 0), (Clo.AV.i Go.IntKind.i64 (Int.ofNat 3))])
set_option maxRecDepth 10000000 in
theorem mk13 : (Clo.layK [] .e fun h => Clo.runF Try.prog x1 1000000 1000 19 args13 h 1000) = .ok val13 := by kernel_rfl
theorem fact13 : Clo.Fact Try.prog 19 [] args13 val13 := Clo.fact_of Clo.plain x1_ok Clo.mixed mk13 (by kernel_rfl) (by kernel_rfl)
def args14 : List Clo.AV := [.s 1 255]
def val14 : Clo.AV := (Clo.AV.tu [(Clo.AV.s 0 0), (Clo.AV.i Go.IntKind.i64 (Int.ofNat 3))])
set_option maxRecDepth 10000000 in
theorem mk14 : (Clo.layK [] .e fun h => Clo.runF Try.prog x1 1000000 1000 19 args14 h 1000) = .ok val14 := by kernel_rfl
theorem fact14 : Clo.Fact Try.prog 19 [] args14 val14 := Clo.fact_of Clo.plain x1_ok Clo.mixed mk14 (by kernel_rfl) (by kernel_rfl)
def args15 : List Clo.AV := [.s 2 23649]
def val15 : Clo.AV := (Clo.AV.tu [(Clo.AV.s 0 0), (Clo.AV.i Go.IntKind.i64 (Int.ofNat 3))])
set_option maxRecDepth 10000000 in
theorem mk15 : (Clo.layK [] .e fun h => Clo.runF Try.prog x1 1000000 1000 19 args15 h 1000) = .ok val15 := by kernel_rfl
theorem fact15 : Clo.Fact Try.prog 19 [] args15 val15 := Clo.fact_of Clo.plain x1_ok Clo.mixed mk15 (by kernel_rfl) (by kernel_rfl)
def args16 : List Clo.AV := [.s 3 3234913]
def val16 : Clo.AV := (Clo.AV.tu [(Clo.AV.s 0 0), (Clo.AV.i Go.IntKind.i64 (Int.ofNat 3))])
set_option maxRecDepth 10000000 in
theorem mk16 : (Clo.layK [] .e fun h => Clo.runF Try.prog x1 1000000 1000 19 args16 h 1000) = .ok val16 := by kernel_rfl
theorem fact16 : Clo.Fact Try.prog 19 [] args16 val16 := Clo.fact_of Clo.plain x1_ok Clo.mixed mk16 (by kernel_rfl) (by kernel_rfl)
def args17 : List Clo.AV := [.s 4 842095713]
def val17 : Clo.AV := (Clo.AV.tu [(Clo.AV.s 0 0), (Clo.AV.i Go.IntKind.i64 (Int.ofNat 3))])
set_option maxRecDepth 10000000 in
theorem mk17 : (Clo.layK [] .e fun h => Clo.runF Try.prog x1 1000000 1000 19 args17 h 1000) = .ok val17 := by kernel_rfl
theorem fact17 : Clo.Fact Try.prog 19 [] args17 val17 := Clo.fact_of Clo.plain x1_ok Clo.mixed mk17 (by kernel_rfl) (by kernel_rfl)
def args18 : List Clo.AV := [.s 5 516238171233]
def val18 : Clo.AV := (Clo.AV.tu [(Clo.AV.s 0 0), (Clo.AV.i Go.IntKind.i64 (Int.ofNat 3))])
set_option maxRecDepth 10000000 in
theorem mk18 : (Clo.layK [] .e fun h => Clo.runF Try.prog x1 1000000 1000 19 args18 h 1000) = .ok val18 := by kernel_rfl
theorem fact18 : Clo.Fact Try.prog 19 [] args18 val18 := Clo.fact_of Clo.plain x1_ok Clo.mixed mk18 (by kernel_rfl) (by kernel_rfl)
def args19 : List Clo.AV := [.s 5 232820726881]
def val19 : Clo.AV := (Clo.AV.tu [(Clo.AV.s 0 0), (Clo.AV.i Go.IntKind.i64 (Int.ofNat 3))])
set_option maxRecDepth 10000000 in
theorem mk19 : (Clo.layK [] .e fun h => Clo.runF Try.prog x1 1000000 1000 19 args19 h 1000) = .ok val19 := by kernel_rfl
theorem fact19 : Clo.Fact Try.prog 19 [] args19 val19 := Clo.fact_of Clo.plain x1_ok Clo.mixed mk19 (by kernel_rfl) (by kernel_rfl)
def args20 : List Clo.AV := [.s 3 2120801]
def val20 : Clo.AV := (Clo.AV.tu [(Clo.AV.s 0 0), (Clo.AV.i Go.IntKind.i64 (Int.ofNat 3))])
set_option maxRecDepth 10000000 in
theorem mk20 : (Clo.layK [] .e fun h => Clo.runF Try.prog x1 1000000 1000 19 args20 h 1000) = .ok val20 := by kernel_rfl
theorem fact20 : Clo.Fact Try.prog 19 [] args20 val20 := Clo.fact_of Clo.plain x1_ok Clo.mixed mk20 (by kernel_rfl) (by kernel_rfl)
def args21 : List Clo.AV := [.s 4 2848152673]
def val21 : Clo.AV := (Clo.AV.tu [(Clo.AV.s 0 0), (Clo.AV.i Go.IntKind.i64 (Int.ofNat 3))])
set_option maxRecDepth 10000000 in
theorem mk21 : (Clo.layK [] .e fun h => Clo.runF Try.prog x1 1000000 1000 19 args21 h 1000) = .ok val21 := by kernel_rfl
theorem fact21 : Clo.Fact Try.prog 19 [] args21 val21 := Clo.fact_of Clo.plain x1_ok Clo.mixed mk21 (by kernel_rfl) (by kernel_rfl)
def args22 : List Clo.AV := [.s 302 3505079201421140314815845756987636618736840848189041228716815043544319958137789451936239378428327626145771724982294508529634076887692105881274066535830090014529387513766807189913185218936681925266440651511585228633709547443658511816699790071178297310615255540031149909459516514090039392304088167442998612161583494069054138840920412295900480887442050047737710926530383486871736615407942023384480823380564648035754264943316952919567505192917214890200584329210527341734143060010295227360369106581961712452691499170985268030866929280572803712821241573018006497475030437045311680557420216198226512487113724039905170885658866194940645397486777236561729977145925160923570139293619879673818147607201146506983799775095032440513122302072]
def val22 : Clo.AV := (Clo.AV.tu [(Clo.AV.s 0 0), (Clo.AV.i Go.IntKind.i64 (Int.ofNat 3))])
set_option maxRecDepth 10000000 in
theorem mk22 : (Clo.layK [] .e fun h => Clo.runF Try.prog x1 1000000 1000 19 args22 h 1000) = .ok val22 := by kernel_rfl
theorem fact22 : Clo.Fact Try.prog 19 [] args22 val22 := Clo.fact_of Clo.plain x1_ok Clo.mixed mk22 (by kernel_rfl) (by kernel_rfl)
def args23 : List Clo.AV := [.s 1 0]
def val23 : Clo.AV := (Clo.AV.tu [(Clo.AV.s 0 0), (Clo.AV.i Go.IntKind.i64 (Int.ofNat 3))])
set_option maxRecDepth 10000000 in
theorem mk23 : (Clo.layK [] .e fun h => Clo.runF Try.prog x1 1000000 1000 19 args23 h 1000) = .ok val23 := by kernel_rfl
theorem fact23 : Clo.Fact Try.prog 19 [] args23 val23 := Clo.fact_of Clo.plain x1_ok Clo.mixed mk23 (by kernel_rfl) (by kernel_rfl)
def args24 : List Clo.AV := [.s 64 6309556672914163340976011763861574648225583915572891001281675973516124249446375047906764375607954554207073815617169906284119474264445444680674658355804280]
def val24 : Clo.AV := (Clo.AV.tu [(Clo.AV.s 0 0), (Clo.AV.i Go.IntKind.i64 (Int.ofNat 5))])
set_option maxRecDepth 10000000 in
theorem mk24 : (Clo.layK [] .e fun h => Clo.runF Try.prog x1 1000000 1000 19 args24 h 1000) = .ok val24 := by kernel_rfl
theorem fact24 : Clo.Fact Try.prog 19 [] args24 val24 := Clo.fact_of Clo.plain x1_ok Clo.mixed mk24 (by kernel_rfl) (by kernel_rfl)
def args25 : List Clo.AV := [.s 254 232055707658195996816943910046170955598317603039661965993583018062992985544490255149910970613531949848408188483182287019575192146933097721558250175108795191747851162392399435013053782294492926248037942210177307056412146836847283766915379477883809512116051903698248488641338654883119082937999595435169170452637722465948003211290939477665530326511783055352699181228729749388130611103452513527189781346130047851970097078476840906875722559749834163657875271376183531383745661469420764239826564332893029279120028044978344181793843195459914485500504282454647951256903509965200948599678143051987009022452121378473146488]
def val25 : Clo.AV := (Clo.AV.tu [(Clo.AV.s 0 0), (Clo.AV.i Go.IntKind.i64 (Int.ofNat 5))])
set_option maxRecDepth 10000000 in
theorem mk25 : (Clo.layK [] .e fun h => Clo.runF Try.prog x1 1000000 1000 19 args25 h 1000) = .ok val25 := by kernel_rfl
theorem fact25 : Clo.Fact Try.prog 19 [] args25 val25 := Clo.fact_of Clo.plain x1_ok Clo.mixed mk25 (by kernel_rfl) (by kernel_rfl)
def args26 : List Clo.AV := [.s 67 40833431728965132610527635811947675419428546914734767235174596764284830982657116470037248874334487329370835471053326139100810319207726295431028572988091445816929]
def val26 : Clo.AV := (Clo.AV.tu [(Clo.AV.s 0 0), (Clo.AV.i Go.IntKind.i64 (Int.ofNat 5))])
set_option maxRecDepth 10000000 in
theorem mk26 : (Clo.layK [] .e fun h => Clo.runF Try.prog x1 1000000 1000 19 args26 h 1000) = .ok val26 := by kernel_rfl
theorem fact26 : Clo.Fact Try.prog 19 [] args26 val26 := Clo.fact_of Clo.plain x1_ok Clo.mixed mk26 (by kernel_rfl) (by kernel_rfl)
def tab2 : List (List Clo.AV × Clo.AV) := [(args6, val6), (args7, val7), (args8, val8), (args9, val9), (args10, val10), (args11, val11), (args12, val12), (args13, val13), (args14, val14), (args15, val15), (args16, val16), (args17, val17), (args18, val18), (args19, val19), (args20, val20), (args21, val21), (args22, val22), (args23, val23), (args24, val24), (args25, val25), (args26, val26)]
noncomputable def x2 : Clo.XT := Clo.addB x1 19 (Clo.memoH [] tab2)
theorem x2_ok : Clo.XOK Try.prog x2 := Clo.addB_ok x1_ok (Clo.memo_ok (fun _ _ h => by cases h) (Clo.facts_mem (show Clo.Facts _ _ _ tab2 from ⟨fact6, fact7, fact8, fact9, fact10, fact11, fact12, fact13, fact14, fact15, fact16, fact17, fact18, fact19, fact20, fact21, fact22, fact23, fact24, fact25, fact26, trivial⟩)))
set_option maxRecDepth 10000000 in
theorem runs : (Clo.layK [] .e fun h => Clo.runF Try.prog x2 1000000 1000 3 [] h 1000) = .ok (.b true) := by kernel_rfl
theorem walks (w : World) : Calls Try.prog 3 #[] w fun e w' => e = .returned (.bool true) ∧ Below w.heap.size w w' :=
  Clo.calls_laid Clo.plain x2_ok Clo.mixed Try.func3 rfl runs (fun _ _ h => by cases h)
end Go.Proofs.Ytcanpcjjmbcifaa.nameNamesM
